/- NodesTells' walk. -/
import Derived.Test.YtledgaiekbpndaaRef2
import Derived.Test.YtledgaiekbpndaaAwake
namespace Go.Proofs.Ytledgaiekbpndaa
open Go.RowKit

/-- What lies below a row's block stays when that row is written over. -/
theorem DAt.far {S : Nat → Prop} {w5 w wr : World} {a : Option Addr} {L : List Nod} (h : DAt w5 a L) (hb : Below w5.heap.size w5 w) (hk : Kp S w wr) (hS : ∀ k, S k → w5.heap.size ≤ k) : DAt wr a L := by
  rcases Nat.eq_zero_or_pos L.length with h0 | h0
  · rw [List.eq_nil_of_length_eq_zero h0]; exact DAt.nil _ _
  · obtain ⟨b, o, rfl⟩ := h.place h0
    have hlt := h.lt h0
    refine (h.below hb).kp hk fun x hx hs => ?_
    cases hx
    have := hS _ hs
    dsimp only at this
    omega

/-- A row of nodes that is written over, cell by cell. -/
structure Ov (base M : Nat) (a : Option Addr) (c : Nat) (w0 w : World) : Prop where
  row : ∃ ys, w.ownsRow base 38 3 (.slice a M c) M ys
  kp : Kp (fun k => (Value.slice a M c).ownBlock = some k) w0 w

theorem Ov.spot {base M : Nat} {a : Option Addr} {c : Nat} {w0 w : World} (h : Ov base M a c w0 w) (hM : 0 < M) : ∃ g, a = some ⟨g, 0, none⟩ ∧ g < w.heap.size ∧ (∀ i, w.frozen? ⟨g, i, none⟩ = false) ∧ ∀ i, i < M * 3 → ∃ v, w.cell? ⟨g, i, none⟩ = some v := by
  obtain ⟨ys, ho⟩ := h.row
  obtain ⟨g, c', e, _, hgl, _, hfz⟩ := owns_spot ho hM
  simp only [Value.slice.injEq] at e
  obtain ⟨rfl, _, _⟩ := e
  refine ⟨g, rfl, hgl, hfz, fun i hi => ?_⟩
  have hl := ho.1
  obtain ⟨b, o, e, hc⟩ := (owns_cat ho) (by intro e; rw [e] at hl; simp at hl; omega)
  cases e
  have := hc i (by omega)
  rw [Nat.zero_add] at this
  exact ⟨_, this⟩

theorem Ov.set {base M g c : Nat} {w0 w : World} (h : Ov base M (some ⟨g, 0, none⟩) c w0 w) {i : Nat} (hi : i < M * 3) (u : Value) : Ov base M (some ⟨g, 0, none⟩) c w0 (w.setCell ⟨g, i, none⟩ u) := by
  obtain ⟨ys, ho⟩ := h.row
  exact ⟨⟨_, owns_put ho hi u⟩, h.kp.setCell (p := ⟨g, i, none⟩) rfl u⟩

theorem fail_len (L : List Nod) (i : Int) : (failP L i).1.length ≤ L.length := by
  unfold failP
  split
  · split
    · simp [failN]
    · simp
  · simp
theorem rise_len (L : List Nod) (i : Int) : (riseP L i).1.length ≤ L.length := by
  unfold riseP
  split
  · split
    · simp
    · split
      · simp
      · simp [riseN]
  · simp
theorem new_len (Z : List Int) : (newP Z).1.length ≤ Z.length := by
  unfold newP
  split
  · simp [mkN]
  · simp

set_option maxRecDepth 100000 in
set_option maxHeartbeats 4000000 in
theorem tells_any (a0 a1 : Option Addr) (n0 c0 n1 c1 : Nat) (Z : List Int) (L1 : List Nod) (i : Int) (w : World) (hZ : Z.length = n0) (hl0 : n0 * 24 ≤ 140737488355328) (hL : L1.length = n1) (hnc1 : n1 ≤ c1) (hl1 : n1 ≤ 4611686018427387904)
    (hat0 : CAt w a0 (Z.map I)) (hat1 : DAt w a1 L1) :
    Calls Try.prog 3 #[.slice a0 n0 c0, .slice a1 n1 c1, .int .i64 i] w fun e w' => e = .returned (.bool true) ∧ Below w.heap.size w w' := by
  obtain ⟨s, hs, hsv⟩ : ∃ s : Nat, s < 4294967296 ∧ i % 4294967296 = (s : Int) := ⟨(i % 4294967296).toNat, by omega, by omega⟩
  have hcv : IntKind.u32.wrap i = (s : Int) := by rw [IntKind.wrap_u32]; exact hsv
  have hrm : IntKind.i64.wrap (Int.tmod i 70) = Int.tmod i 70 := by
    have h1 := Int.tmod_lt_of_pos i (show (0 : Int) < 70 by omega)
    have h2 := Int.lt_tmod_of_pos i (show (0 : Int) < 70 by omega)
    rw [IntKind.wrap_i64]; omega
  have kN := fun w' (h : Below w.heap.size w w') => new_any a0 n0 c0 Z w' hZ (by omega) (CAt.below hat0 h)
  have kNr := fun w' (h : Below w.heap.size w w') => newr_any a0 n0 c0 Z w' hZ hl0 (CAt.below hat0 h)
  generalize hDN : newP Z = DN at kN kNr
  obtain ⟨DN, EN⟩ := DN
  replace kN := fun w' h => told_n DN.length rfl (kN w' h)
  replace kNr := fun w' h => told_n DN.length rfl (kNr w' h)
  obtain ⟨MN, hMN⟩ : ∃ M, M = DN.length := ⟨_, rfl⟩
  rw [← hMN] at kN kNr
  have hMNb : MN ≤ 4611686018427387904 := by
    have : DN.length ≤ Z.length := by
      have := new_len Z
      rw [hDN] at this
      exact this
    omega
  replace hMN := hid hMN
  replace hDN := hid hDN
  replace kN := hid kN
  replace kNr := hid kNr
  replace hZ := hid hZ
  replace hat0 := hid hat0
  replace hsv := hid hsv
  by_cases h200 : 200 < n1
  · have d200 : decide ((200 : Int) < (n1 : Int)) = true := by simp; omega
    obtain ⟨b1, o1, e⟩ := hat1.place (by omega)
    subst e
    have hc200 : 200 ≤ c1 := by omega
    have hc200' : (200 : Int) ≤ (c1 : Int) := by omega
    have hc0 : ¬ c1 = 0 := by omega
    obtain ⟨L, hLe⟩ : ∃ L, L = L1.take 200 := ⟨_, rfl⟩
    have hat : DAt w (some ⟨b1, o1, none⟩) L := by rw [hLe]; exact hat1.take 200
    have hn : L.length = 200 := by rw [hLe, List.length_take]; omega
    replace hLe := hid hLe
    replace hat1 := hid hat1
    replace hL := hid hL
    have k10 := fun w' (h : Below w.heap.size w w') => failr_any (some ⟨b1, o1, none⟩) 200 c1 L i w' hn (by omega) (hat.below h)
    have k9 := fun ad k w' (h : DAt w' ad L) => fail_any ad 200 k L i w' hn (by omega) h
    generalize hDF : failP L i = DF at k9 k10
    obtain ⟨DF, EF⟩ := DF
    replace k9 := fun ad k w' h => told_n DF.length rfl (k9 ad k w' h)
    replace k10 := fun w' h => told_n DF.length rfl (k10 w' h)
    obtain ⟨MF, hMF⟩ : ∃ M, M = DF.length := ⟨_, rfl⟩
    rw [← hMF] at k9 k10
    have hMF2 : MF ≤ 4611686018427387904 := by
      have : DF.length ≤ L.length := by
        have := fail_len L i
        rw [hDF] at this
        exact this
      omega
    replace hMF := hid hMF
    have k12 := fun w' (h : Below w.heap.size w w') => riser_any (some ⟨b1, o1, none⟩) 200 c1 L i w' hn (by omega) (hat.below h)
    have k11 := fun ad k w' (h : DAt w' ad L) => rise_any ad 200 k L i w' hn (by omega) h
    generalize hDR : riseP L i = DR at k11 k12
    obtain ⟨DR, ER⟩ := DR
    replace k11 := fun ad k w' h => told_n DR.length rfl (k11 ad k w' h)
    replace k12 := fun w' h => told_n DR.length rfl (k12 w' h)
    obtain ⟨MR, hMR⟩ : ∃ M, M = DR.length := ⟨_, rfl⟩
    rw [← hMR] at k11 k12
    have hMR2 : MR ≤ 4611686018427387904 := by
      have : DR.length ≤ L.length := by
        have := rise_len L i
        rw [hDR] at this
        exact this
      omega
    replace hMR := hid hMR
    replace hDF := hid hDF
    replace hDR := hid hDR
    have k15 := fun w' (h : Below w.heap.size w w') => rightr_any (some ⟨b1, o1, none⟩) 200 c1 L w' hn (by omega) (hat.below h)
    have k14 := fun ad k w' (h : DAt w' ad L) => right_any ad 200 k L w' hn (by omega) h
    generalize rightB L = RB at k14 k15
    have k17 := fun w' (h : Below w.heap.size w w') => upr_any (some ⟨b1, o1, none⟩) 200 c1 L w' hn (by omega) (hat.below h)
    have k16 := fun ad k w' (hk : 200 ≤ k) (h : DAt w' ad L) => up_any ad 200 k L w' hn (by omega) hk h
    unfold upP at k16
    generalize gs (upB L) (min L.length 32) = UP at k16 k17
    have k22 := fun w' (h : Below w.heap.size w w') => abler_any (some ⟨b1, o1, none⟩) 200 c1 L s (Int.tmod i 70) w' hn (by omega) hs (hat.below h)
    have k21 := fun ad k w' (hk : 200 ≤ k) (h : DAt w' ad L) => able_any ad 200 k L s (Int.tmod i 70) w' hn (by omega) hk hs h
    rw [able_same] at k22
    generalize ableP L s (Int.tmod i 70) = AB at k21 k22
    have k20 := fun w' (h : Below w.heap.size w w') => coresr_any (some ⟨b1, o1, none⟩) 200 c1 L w' hn (by omega) (hat.below h)
    have k19 := fun ad k w' (h : DAt w' ad L) => cores_any ad 200 k L w' hn (by omega) h
    have hCs : (coresP L).length = 200 := by unfold coresP; rw [List.length_map]; exact hn
    generalize coresP L = Cs at *
    have k6 := copyn_any (some ⟨b1, o1, none⟩) 200 c1 L w hn (by omega) hat
    have hnn : 200 ≤ 4611686018427387904 := by omega
    replace k6 := hid k6
    replace k9 := hid k9
    replace k10 := hid k10
    replace k11 := hid k11
    replace k12 := hid k12
    replace k14 := hid k14
    replace k15 := hid k15
    replace k16 := hid k16
    replace k17 := hid k17
    replace k19 := hid k19
    replace k20 := hid k20
    replace k21 := hid k21
    replace k22 := hid k22
    replace hCs := hid hCs
    replace hn := hid hn
    replace hat := hid hat
    go_enter Try.func3, Try.ntmps3
    go_wp2_with fail
    refine k6.out.mono ?_
    rintro e w1 ⟨ad, cd, rfl, hcd, hoI, B1⟩
    have hI := hid hoI.dat
    clear hoI k6
    go_wp2_with fail
    refine (kN.out _ B1).mono ?_
    rintro e w2 ⟨aN, cN, rfl, _, hoN, b2⟩
    have hdN := hid hoN.dat
    have B2 := bnext B1 b2
    have I2 := hid (hI.out.below b2)
    clear hoN kN b2 hI
    go_wp2_with fail
    refine (kNr.out _ B2).mono ?_
    rintro e w3 ⟨aM, cM, rfl, _, hoM, b3⟩
    have hdM := hid hoM.dat
    have hdN3 := hid (hdN.out.below b3)
    have B3 := bnext B2 b3
    have I3 := hid (I2.out.below b3)
    clear hoM kNr b3 I2 hdN
    go_wp2_with fail
    refine (k9.out ad cd _ I3.out).mono ?_
    rintro e w4 ⟨aF, cF, rfl, _, hoF, b4⟩
    have hdN4 := hid (hdN3.out.below b4)
    have hdM4 := hid (hdM.out.below b4)
    have B4 := bnext B3 b4
    have I4 := hid (I3.out.below b4)
    have hbF := B3.size
    replace hoF := hid hoF
    clear k9 hdN3 hdM
    go_wp2_with fail
    refine (k10.out _ B4).mono ?_
    rintro e w5 ⟨aG, cG, rfl, _, hoG, b5⟩
    have hdG := hid hoG.dat
    have hdN5 := hid (hdN4.out.below b5)
    have hdM5 := hid (hdM4.out.below b5)
    have hoF5 := hid (hoF.out.below b5)
    have B5 := bnext B4 b5
    have I5 := hid (I4.out.below b5)
    clear k10 hdN4 hdM4 hoF hoG I4
    go_wp2_with fail
    refine (k11.out ad cd _ I5.out).mono ?_
    rintro e w6 ⟨aR, cR, rfl, _, hoR, b6⟩
    have hdG6 := hid (hdG.out.below b6)
    have hdN6 := hid (hdN5.out.below b6)
    have hdM6 := hid (hdM5.out.below b6)
    have hoF6 := hid (hoF5.out.below b6)
    have hF5 := hid hoF5.out
    have B6 := bnext B5 b6
    have I6 := hid (I5.out.below b6)
    have B35 := bnext b4 b5
    have B36 := bnext B35 b6
    replace hoR := hid hoR
    clear k11 hdN5 hdM5 hoF5 hdG b4
    go_wp2_with fail
    refine (k12.out _ B6).mono ?_
    rintro e w7 ⟨aS, cS, rfl, _, hoS, b7⟩
    have hdS := hid hoS.dat
    have hdG7 := hid (hdG6.out.below b7)
    have hdN7 := hid (hdN6.out.below b7)
    have hdM7 := hid (hdM6.out.below b7)
    have hoF7 := hid (hoF6.out.below b7)
    have hoR7 := hid (hoR.out.below b7)
    have B7 := bnext B6 b7
    have I7 := hid (I6.out.below b7)
    have B37 := bnext B36 b7
    have B57 := bnext b6 b7
    clear k12 hdN6 hdM6 hoF6 hdG6 hoR hoS I6 B36 b7 b6
    have s1 := same_any aN aM MN cN cM DN w7 hMN.out.symm (hMNb) hdN7.out hdM7.out
    replace s1 := hid s1
    go_wp2_with fail
    refine s1.out.mono ?_
    rintro e w8 ⟨rfl, b8⟩
    have s2 := hid (same_any aF aG MF cF cG DF w8 hMF.out.symm hMF2 (hoF7.out.dat.below b8) (hdG7.out.below b8))
    clear s1 hdN7 hdM7
    go_wp2_with fail
    refine s2.out.mono ?_
    rintro e w9 ⟨rfl, b9⟩
    have b89 := bnext b8 b9
    have s3 := hid (same_any aR aS MR cR cS DR w9 hMR.out.symm hMR2 (hoR7.out.dat.below b89) (hdS.out.below b89))
    clear s2 hdG7 b8 b9
    go_wp2_with fail
    refine s3.out.mono ?_
    rintro e w10 ⟨rfl, b10⟩
    have b7a := bnext b89 b10
    clear s3 hdS b89 b10
    go_wp2_with fail
    refine (k14.out ad cd _ (I7.out.below b7a)).mono ?_
    rintro e w11 ⟨rfl, b11⟩
    have b7b := bnext b7a b11
    clear k14 b7a b11
    go_wp2_with fail
    refine (k15.out _ (bnext B7 b7b)).mono ?_
    rintro e w12 ⟨rfl, b12⟩
    have b7c := bnext b7b b12
    clear k15 b7b b12
    go_wp2_with fail
    refine (k16.out ad cd _ hcd (I7.out.below b7c)).mono ?_
    rintro e w13 ⟨rfl, b13⟩
    have b7d := bnext b7c b13
    clear k16 b7c b13
    go_wp2_with fail
    refine (k17.out _ (bnext B7 b7d)).mono ?_
    rintro e w14 ⟨rfl, b14⟩
    have b7e := bnext b7d b14
    clear k17 b7d b14
    go_wp2_with fail
    refine (k19.out ad cd _ (I7.out.below b7e)).mono ?_
    rintro e w15 ⟨gC, rfl, hC1, b15⟩
    have b7f := bnext b7e b15
    replace hC1 := hid hC1
    clear k19 b7e b15
    go_wp2_with fail
    refine (k20.out _ (bnext B7 b7f)).mono ?_
    rintro e w16 ⟨aC, cC, rfl, hC2, b16⟩
    have b7g := bnext b7f b16
    have hC1b := hid (CAt.below hC1.out b16)
    replace hC2 := hid hC2
    clear k20 b7f b16 hC1
    go_wp2_with fail
    refine (samei_any (some ⟨gC, 0, none⟩) aC 200 200 cC Cs w16 hCs.out hnn hC1b.out hC2.out).mono ?_
    rintro e w17 ⟨rfl, b17⟩
    have b7h := bnext b7g b17
    clear b7g b17 hC1b hC2
    go_wp2_with fail
    refine (k21.out ad cd _ hcd (I7.out.below b7h)).mono ?_
    rintro e w18 ⟨rfl, b18⟩
    have b7i := bnext b7h b18
    clear k21 b7h b18
    go_wp2_with fail
    refine (k22.out _ (bnext B7 b7i)).mono ?_
    rintro e w19 ⟨rfl, b19⟩
    have b7j := bnext b7i b19
    clear k22 b7i b19
    have hF19 := hoF7.out.below b7j
    have hR19 := hoR7.out.below b7j
    have oF : Hid (Ov w3.heap.size MF aF cF w19 w19) := by
      unfold DOwn at hF19
      rw [← hMF.out] at hF19
      exact ⟨⟨_, hF19⟩, Kp.refl _ _⟩
    have hSF : ∀ k, (Value.slice aF MF cF).ownBlock = some k → w3.heap.size ≤ k ∧ k < w5.heap.size := fun k hk => by
      have h5 := hF5.out
      unfold DOwn at h5
      rw [← hMF.out] at h5
      exact h5.lt k hk
    have hSR : ∀ k, (Value.slice aR MR cR).ownBlock = some k → w5.heap.size ≤ k := fun k hk => by
      have h5 := hR19
      unfold DOwn at h5
      rw [← hMR.out] at h5
      exact (h5.lt k hk).1
    replace hSF := hid hSF
    replace hSR := hid hSR
    replace hF19 := hid hF19
    replace hR19 := hid hR19
    clear hoF7 hoR7
    go_wp2_with fail
    go_loopw [20] (fun v wr => ∃ x : Nat, x ≤ MF ∧ v = .int .i64 (x : Int) ∧ Hid (Ov w3.heap.size MF aF cF w19 wr)) (fun v _ => MF - (intOf v).toNat)
    case atStart => exact ⟨0, Nat.zero_le _, rfl, oF⟩
    case round =>
      obtain ⟨x, hx, rfl, hov⟩ := hrel
      by_cases hlt : x < MF
      · obtain ⟨g, e, hgl, hfz, hcl⟩ := hov.out.spot (by omega)
        subst e
        obtain ⟨v0, hv0⟩ := hcl (x * 3) (by omega)
        have f0 := hfz (x * 3)
        have hov2 := hid (hov.out.set (i := x * 3) (by omega) (.int .i64 99))
        clear hfz hcl
        go_wp2_with fail
        go_roundw
        case rel => exact ⟨x + 1, by omega, by go_num, hov2⟩
        case measure => simp [intOf]; omega
      · have hxe : MF = x := by omega
        subst hxe
        have hkF := hov.out.kp
        have hIF : DAt wr ad L := DAt.far I3.out (bnext B37 b7j) hkF (fun k hk => (hSF.out k hk).1)
        have hLF : DAt wr (some ⟨b1, o1, none⟩) L := DAt.far (hat.out.below B3) (bnext B37 b7j) hkF (fun k hk => (hSF.out k hk).1)
        have hBF : Below w.heap.size w wr := (bnext B7 b7j).trans (hkF.below (fun k hk => Nat.le_trans hbF (hSF.out k hk).1) (bnext B7 b7j).size)
        have oR : Hid (Ov w5.heap.size MR aR cR wr wr) := by
          have h5 := hR19.out
          unfold DOwn at h5
          rw [← hMR.out] at h5
          refine ⟨⟨_, owns_kp h5 hkF fun k hk hs => ?_⟩, Kp.refl _ _⟩
          have h6 := hSR.out k hk
          have h7 := (hSF.out k hs).2
          omega
        have hsz5 : w5.heap.size ≤ wr.heap.size := Nat.le_trans (bnext B57 b7j).size hkF.size
        have hI5' := hid (DAt.far I5.out (bnext B57 b7j) (Kp.refl (fun _ => False) _) (fun k hk => hk.elim))
        replace hIF := hid hIF
        replace hLF := hid hLF
        replace hkF := hid hkF
        have hIF5 : Hid (∀ (S : Nat → Prop) (w' : World), Kp S wr w' → (∀ k, S k → w5.heap.size ≤ k) → DAt w' ad L ∧ DAt w' (some ⟨b1, o1, none⟩) L) := by
          intro S w' hk hS
          refine ⟨?_, ?_⟩
          · rcases Nat.eq_zero_or_pos L.length with h0 | h0
            · rw [List.eq_nil_of_length_eq_zero h0]; exact DAt.nil _ _
            · refine DAt.kp hIF.out hk fun y hy hs => ?_
              have h1 := hS _ hs
              obtain ⟨b', o', e'⟩ := I5.out.place h0
              have h2 := hy
              rw [e'] at h2
              cases h2
              have h3 := (show DAt w5 (some ⟨b', o', none⟩) L from e' ▸ I5.out).lt h0
              dsimp only at h1
              omega
          · rcases Nat.eq_zero_or_pos L.length with h0 | h0
            · rw [List.eq_nil_of_length_eq_zero h0]; exact DAt.nil _ _
            · refine DAt.kp hLF.out hk fun y hy hs => ?_
              have h1 := hS _ hs
              have h5 := hat.out.below B5
              obtain ⟨b', o', e'⟩ := h5.place h0
              have h2 := hy
              rw [e'] at h2
              cases h2
              have h3 := (show DAt w5 (some ⟨b', o', none⟩) L from e' ▸ h5).lt h0
              dsimp only at h1
              omega
        clear hov oF hF19 hI5' hIF hLF
        go_wp2_with fail
        go_loopw [21] (fun v wx => ∃ x : Nat, x ≤ MR ∧ v = .int .i64 (x : Int) ∧ Hid (Ov w5.heap.size MR aR cR wr wx)) (fun v _ => MR - (intOf v).toNat)
        case atStart => exact ⟨0, Nat.zero_le _, rfl, oR⟩
        case round =>
          obtain ⟨x, hx, rfl, hov⟩ := hrel
          by_cases hlt : x < MR
          · obtain ⟨g, e, hgl, hfz, hcl⟩ := hov.out.spot (by omega)
            subst e
            obtain ⟨v0, hv0⟩ := hcl (x * 3) (by omega)
            have f0 := hfz (x * 3)
            have hov2 := hid (hov.out.set (i := x * 3) (by omega) (.int .i64 99))
            clear hfz hcl
            go_wp2_with fail
            go_roundw
            case rel => exact ⟨x + 1, by omega, by go_num, hov2⟩
            case measure => simp [intOf]; omega
          · have hxe : MR = x := by omega
            subst hxe
            have hkR := hov.out.kp
            obtain ⟨hJ, hK⟩ := hIF5.out _ _ hkR hSR.out
            have hBR := hBF.trans (hkR.below (fun k hk => Nat.le_trans B5.size (hSR.out k hk)) hBF.size)
            have s4 := hid (same_any ad (some ⟨b1, o1, none⟩) 200 cd c1 L wr hn.out hnn hJ hK)
            clear hJ hK hov hkR
            go_wp2_with fail
            refine s4.out.mono ?_
            rintro e w20 ⟨rfl, b20⟩
            have B20 : Below w.heap.size w w20 := hBR.trans (b20.mono hBR.size)
            go_wp2_with fail
            refine (awake_any _).mono ?_
            rintro e w21 ⟨rfl, b21⟩
            have B21 := bnext B20 b21
            go_wp2
            go_ret
            exact ⟨rfl, B21⟩
  · have d200 : decide ((200 : Int) < (n1 : Int)) = false := by simp; omega
    obtain ⟨L, hLe⟩ : ∃ L, L = L1 := ⟨_, rfl⟩
    have hat : DAt w a1 L := by rw [hLe]; exact hat1
    have hn : L.length = n1 := by rw [hLe]; exact hL
    replace hLe := hid hLe
    replace hat1 := hid hat1
    replace hL := hid hL
    have k10 := fun w' (h : Below w.heap.size w w') => failr_any a1 n1 c1 L i w' hn (by omega) (hat.below h)
    have k9 := fun ad k w' (h : DAt w' ad L) => fail_any ad n1 k L i w' hn (by omega) h
    generalize hDF : failP L i = DF at k9 k10
    obtain ⟨DF, EF⟩ := DF
    replace k9 := fun ad k w' h => told_n DF.length rfl (k9 ad k w' h)
    replace k10 := fun w' h => told_n DF.length rfl (k10 w' h)
    obtain ⟨MF, hMF⟩ : ∃ M, M = DF.length := ⟨_, rfl⟩
    rw [← hMF] at k9 k10
    have hMF2 : MF ≤ 4611686018427387904 := by
      have : DF.length ≤ L.length := by
        have := fail_len L i
        rw [hDF] at this
        exact this
      omega
    replace hMF := hid hMF
    have k12 := fun w' (h : Below w.heap.size w w') => riser_any a1 n1 c1 L i w' hn (by omega) (hat.below h)
    have k11 := fun ad k w' (h : DAt w' ad L) => rise_any ad n1 k L i w' hn (by omega) h
    generalize hDR : riseP L i = DR at k11 k12
    obtain ⟨DR, ER⟩ := DR
    replace k11 := fun ad k w' h => told_n DR.length rfl (k11 ad k w' h)
    replace k12 := fun w' h => told_n DR.length rfl (k12 w' h)
    obtain ⟨MR, hMR⟩ : ∃ M, M = DR.length := ⟨_, rfl⟩
    rw [← hMR] at k11 k12
    have hMR2 : MR ≤ 4611686018427387904 := by
      have : DR.length ≤ L.length := by
        have := rise_len L i
        rw [hDR] at this
        exact this
      omega
    replace hMR := hid hMR
    replace hDF := hid hDF
    replace hDR := hid hDR
    have k15 := fun w' (h : Below w.heap.size w w') => rightr_any a1 n1 c1 L w' hn (by omega) (hat.below h)
    have k14 := fun ad k w' (h : DAt w' ad L) => right_any ad n1 k L w' hn (by omega) h
    generalize rightB L = RB at k14 k15
    have k17 := fun w' (h : Below w.heap.size w w') => upr_any a1 n1 c1 L w' hn (by omega) (hat.below h)
    have k16 := fun ad k w' (hk : n1 ≤ k) (h : DAt w' ad L) => up_any ad n1 k L w' hn (by omega) hk h
    unfold upP at k16
    generalize gs (upB L) (min L.length 32) = UP at k16 k17
    have k22 := fun w' (h : Below w.heap.size w w') => abler_any a1 n1 c1 L s (Int.tmod i 70) w' hn (by omega) hs (hat.below h)
    have k21 := fun ad k w' (hk : n1 ≤ k) (h : DAt w' ad L) => able_any ad n1 k L s (Int.tmod i 70) w' hn (by omega) hk hs h
    rw [able_same] at k22
    generalize ableP L s (Int.tmod i 70) = AB at k21 k22
    have k20 := fun w' (h : Below w.heap.size w w') => coresr_any a1 n1 c1 L w' hn (by omega) (hat.below h)
    have k19 := fun ad k w' (h : DAt w' ad L) => cores_any ad n1 k L w' hn (by omega) h
    have hCs : (coresP L).length = n1 := by unfold coresP; rw [List.length_map]; exact hn
    generalize coresP L = Cs at *
    have k6 := copyn_any a1 n1 c1 L w hn (by omega) hat
    have hnn : n1 ≤ 4611686018427387904 := by omega
    replace k6 := hid k6
    replace k9 := hid k9
    replace k10 := hid k10
    replace k11 := hid k11
    replace k12 := hid k12
    replace k14 := hid k14
    replace k15 := hid k15
    replace k16 := hid k16
    replace k17 := hid k17
    replace k19 := hid k19
    replace k20 := hid k20
    replace k21 := hid k21
    replace k22 := hid k22
    replace hCs := hid hCs
    replace hn := hid hn
    replace hat := hid hat
    go_enter Try.func3, Try.ntmps3
    go_wp2_with fail
    refine k6.out.mono ?_
    rintro e w1 ⟨ad, cd, rfl, hcd, hoI, B1⟩
    have hI := hid hoI.dat
    clear hoI k6
    go_wp2_with fail
    refine (kN.out _ B1).mono ?_
    rintro e w2 ⟨aN, cN, rfl, _, hoN, b2⟩
    have hdN := hid hoN.dat
    have B2 := bnext B1 b2
    have I2 := hid (hI.out.below b2)
    clear hoN kN b2 hI
    go_wp2_with fail
    refine (kNr.out _ B2).mono ?_
    rintro e w3 ⟨aM, cM, rfl, _, hoM, b3⟩
    have hdM := hid hoM.dat
    have hdN3 := hid (hdN.out.below b3)
    have B3 := bnext B2 b3
    have I3 := hid (I2.out.below b3)
    clear hoM kNr b3 I2 hdN
    go_wp2_with fail
    refine (k9.out ad cd _ I3.out).mono ?_
    rintro e w4 ⟨aF, cF, rfl, _, hoF, b4⟩
    have hdN4 := hid (hdN3.out.below b4)
    have hdM4 := hid (hdM.out.below b4)
    have B4 := bnext B3 b4
    have I4 := hid (I3.out.below b4)
    have hbF := B3.size
    replace hoF := hid hoF
    clear k9 hdN3 hdM
    go_wp2_with fail
    refine (k10.out _ B4).mono ?_
    rintro e w5 ⟨aG, cG, rfl, _, hoG, b5⟩
    have hdG := hid hoG.dat
    have hdN5 := hid (hdN4.out.below b5)
    have hdM5 := hid (hdM4.out.below b5)
    have hoF5 := hid (hoF.out.below b5)
    have B5 := bnext B4 b5
    have I5 := hid (I4.out.below b5)
    clear k10 hdN4 hdM4 hoF hoG I4
    go_wp2_with fail
    refine (k11.out ad cd _ I5.out).mono ?_
    rintro e w6 ⟨aR, cR, rfl, _, hoR, b6⟩
    have hdG6 := hid (hdG.out.below b6)
    have hdN6 := hid (hdN5.out.below b6)
    have hdM6 := hid (hdM5.out.below b6)
    have hoF6 := hid (hoF5.out.below b6)
    have hF5 := hid hoF5.out
    have B6 := bnext B5 b6
    have I6 := hid (I5.out.below b6)
    have B35 := bnext b4 b5
    have B36 := bnext B35 b6
    replace hoR := hid hoR
    clear k11 hdN5 hdM5 hoF5 hdG b4
    go_wp2_with fail
    refine (k12.out _ B6).mono ?_
    rintro e w7 ⟨aS, cS, rfl, _, hoS, b7⟩
    have hdS := hid hoS.dat
    have hdG7 := hid (hdG6.out.below b7)
    have hdN7 := hid (hdN6.out.below b7)
    have hdM7 := hid (hdM6.out.below b7)
    have hoF7 := hid (hoF6.out.below b7)
    have hoR7 := hid (hoR.out.below b7)
    have B7 := bnext B6 b7
    have I7 := hid (I6.out.below b7)
    have B37 := bnext B36 b7
    have B57 := bnext b6 b7
    clear k12 hdN6 hdM6 hoF6 hdG6 hoR hoS I6 B36 b7 b6
    have s1 := same_any aN aM MN cN cM DN w7 hMN.out.symm (hMNb) hdN7.out hdM7.out
    replace s1 := hid s1
    go_wp2_with fail
    refine s1.out.mono ?_
    rintro e w8 ⟨rfl, b8⟩
    have s2 := hid (same_any aF aG MF cF cG DF w8 hMF.out.symm hMF2 (hoF7.out.dat.below b8) (hdG7.out.below b8))
    clear s1 hdN7 hdM7
    go_wp2_with fail
    refine s2.out.mono ?_
    rintro e w9 ⟨rfl, b9⟩
    have b89 := bnext b8 b9
    have s3 := hid (same_any aR aS MR cR cS DR w9 hMR.out.symm hMR2 (hoR7.out.dat.below b89) (hdS.out.below b89))
    clear s2 hdG7 b8 b9
    go_wp2_with fail
    refine s3.out.mono ?_
    rintro e w10 ⟨rfl, b10⟩
    have b7a := bnext b89 b10
    clear s3 hdS b89 b10
    go_wp2_with fail
    refine (k14.out ad cd _ (I7.out.below b7a)).mono ?_
    rintro e w11 ⟨rfl, b11⟩
    have b7b := bnext b7a b11
    clear k14 b7a b11
    go_wp2_with fail
    refine (k15.out _ (bnext B7 b7b)).mono ?_
    rintro e w12 ⟨rfl, b12⟩
    have b7c := bnext b7b b12
    clear k15 b7b b12
    go_wp2_with fail
    refine (k16.out ad cd _ hcd (I7.out.below b7c)).mono ?_
    rintro e w13 ⟨rfl, b13⟩
    have b7d := bnext b7c b13
    clear k16 b7c b13
    go_wp2_with fail
    refine (k17.out _ (bnext B7 b7d)).mono ?_
    rintro e w14 ⟨rfl, b14⟩
    have b7e := bnext b7d b14
    clear k17 b7d b14
    go_wp2_with fail
    refine (k19.out ad cd _ (I7.out.below b7e)).mono ?_
    rintro e w15 ⟨gC, rfl, hC1, b15⟩
    have b7f := bnext b7e b15
    replace hC1 := hid hC1
    clear k19 b7e b15
    go_wp2_with fail
    refine (k20.out _ (bnext B7 b7f)).mono ?_
    rintro e w16 ⟨aC, cC, rfl, hC2, b16⟩
    have b7g := bnext b7f b16
    have hC1b := hid (CAt.below hC1.out b16)
    replace hC2 := hid hC2
    clear k20 b7f b16 hC1
    go_wp2_with fail
    refine (samei_any (some ⟨gC, 0, none⟩) aC n1 n1 cC Cs w16 hCs.out hnn hC1b.out hC2.out).mono ?_
    rintro e w17 ⟨rfl, b17⟩
    have b7h := bnext b7g b17
    clear b7g b17 hC1b hC2
    go_wp2_with fail
    refine (k21.out ad cd _ hcd (I7.out.below b7h)).mono ?_
    rintro e w18 ⟨rfl, b18⟩
    have b7i := bnext b7h b18
    clear k21 b7h b18
    go_wp2_with fail
    refine (k22.out _ (bnext B7 b7i)).mono ?_
    rintro e w19 ⟨rfl, b19⟩
    have b7j := bnext b7i b19
    clear k22 b7i b19
    have hF19 := hoF7.out.below b7j
    have hR19 := hoR7.out.below b7j
    have oF : Hid (Ov w3.heap.size MF aF cF w19 w19) := by
      unfold DOwn at hF19
      rw [← hMF.out] at hF19
      exact ⟨⟨_, hF19⟩, Kp.refl _ _⟩
    have hSF : ∀ k, (Value.slice aF MF cF).ownBlock = some k → w3.heap.size ≤ k ∧ k < w5.heap.size := fun k hk => by
      have h5 := hF5.out
      unfold DOwn at h5
      rw [← hMF.out] at h5
      exact h5.lt k hk
    have hSR : ∀ k, (Value.slice aR MR cR).ownBlock = some k → w5.heap.size ≤ k := fun k hk => by
      have h5 := hR19
      unfold DOwn at h5
      rw [← hMR.out] at h5
      exact (h5.lt k hk).1
    replace hSF := hid hSF
    replace hSR := hid hSR
    replace hF19 := hid hF19
    replace hR19 := hid hR19
    clear hoF7 hoR7
    go_wp2_with fail
    go_loopw [20] (fun v wr => ∃ x : Nat, x ≤ MF ∧ v = .int .i64 (x : Int) ∧ Hid (Ov w3.heap.size MF aF cF w19 wr)) (fun v _ => MF - (intOf v).toNat)
    case atStart => exact ⟨0, Nat.zero_le _, rfl, oF⟩
    case round =>
      obtain ⟨x, hx, rfl, hov⟩ := hrel
      by_cases hlt : x < MF
      · obtain ⟨g, e, hgl, hfz, hcl⟩ := hov.out.spot (by omega)
        subst e
        obtain ⟨v0, hv0⟩ := hcl (x * 3) (by omega)
        have f0 := hfz (x * 3)
        have hov2 := hid (hov.out.set (i := x * 3) (by omega) (.int .i64 99))
        clear hfz hcl
        go_wp2_with fail
        go_roundw
        case rel => exact ⟨x + 1, by omega, by go_num, hov2⟩
        case measure => simp [intOf]; omega
      · have hxe : MF = x := by omega
        subst hxe
        have hkF := hov.out.kp
        have hIF : DAt wr ad L := DAt.far I3.out (bnext B37 b7j) hkF (fun k hk => (hSF.out k hk).1)
        have hLF : DAt wr a1 L := DAt.far (hat.out.below B3) (bnext B37 b7j) hkF (fun k hk => (hSF.out k hk).1)
        have hBF : Below w.heap.size w wr := (bnext B7 b7j).trans (hkF.below (fun k hk => Nat.le_trans hbF (hSF.out k hk).1) (bnext B7 b7j).size)
        have oR : Hid (Ov w5.heap.size MR aR cR wr wr) := by
          have h5 := hR19.out
          unfold DOwn at h5
          rw [← hMR.out] at h5
          refine ⟨⟨_, owns_kp h5 hkF fun k hk hs => ?_⟩, Kp.refl _ _⟩
          have h6 := hSR.out k hk
          have h7 := (hSF.out k hs).2
          omega
        have hsz5 : w5.heap.size ≤ wr.heap.size := Nat.le_trans (bnext B57 b7j).size hkF.size
        have hI5' := hid (DAt.far I5.out (bnext B57 b7j) (Kp.refl (fun _ => False) _) (fun k hk => hk.elim))
        replace hIF := hid hIF
        replace hLF := hid hLF
        replace hkF := hid hkF
        have hIF5 : Hid (∀ (S : Nat → Prop) (w' : World), Kp S wr w' → (∀ k, S k → w5.heap.size ≤ k) → DAt w' ad L ∧ DAt w' a1 L) := by
          intro S w' hk hS
          refine ⟨?_, ?_⟩
          · rcases Nat.eq_zero_or_pos L.length with h0 | h0
            · rw [List.eq_nil_of_length_eq_zero h0]; exact DAt.nil _ _
            · refine DAt.kp hIF.out hk fun y hy hs => ?_
              have h1 := hS _ hs
              obtain ⟨b', o', e'⟩ := I5.out.place h0
              have h2 := hy
              rw [e'] at h2
              cases h2
              have h3 := (show DAt w5 (some ⟨b', o', none⟩) L from e' ▸ I5.out).lt h0
              dsimp only at h1
              omega
          · rcases Nat.eq_zero_or_pos L.length with h0 | h0
            · rw [List.eq_nil_of_length_eq_zero h0]; exact DAt.nil _ _
            · refine DAt.kp hLF.out hk fun y hy hs => ?_
              have h1 := hS _ hs
              have h5 := hat.out.below B5
              obtain ⟨b', o', e'⟩ := h5.place h0
              have h2 := hy
              rw [e'] at h2
              cases h2
              have h3 := (show DAt w5 (some ⟨b', o', none⟩) L from e' ▸ h5).lt h0
              dsimp only at h1
              omega
        clear hov oF hF19 hI5' hIF hLF
        go_wp2_with fail
        go_loopw [21] (fun v wx => ∃ x : Nat, x ≤ MR ∧ v = .int .i64 (x : Int) ∧ Hid (Ov w5.heap.size MR aR cR wr wx)) (fun v _ => MR - (intOf v).toNat)
        case atStart => exact ⟨0, Nat.zero_le _, rfl, oR⟩
        case round =>
          obtain ⟨x, hx, rfl, hov⟩ := hrel
          by_cases hlt : x < MR
          · obtain ⟨g, e, hgl, hfz, hcl⟩ := hov.out.spot (by omega)
            subst e
            obtain ⟨v0, hv0⟩ := hcl (x * 3) (by omega)
            have f0 := hfz (x * 3)
            have hov2 := hid (hov.out.set (i := x * 3) (by omega) (.int .i64 99))
            clear hfz hcl
            go_wp2_with fail
            go_roundw
            case rel => exact ⟨x + 1, by omega, by go_num, hov2⟩
            case measure => simp [intOf]; omega
          · have hxe : MR = x := by omega
            subst hxe
            have hkR := hov.out.kp
            obtain ⟨hJ, hK⟩ := hIF5.out _ _ hkR hSR.out
            have hBR := hBF.trans (hkR.below (fun k hk => Nat.le_trans B5.size (hSR.out k hk)) hBF.size)
            have s4 := hid (same_any ad a1 n1 cd c1 L wr hn.out hnn hJ hK)
            clear hJ hK hov hkR
            go_wp2_with fail
            refine s4.out.mono ?_
            rintro e w20 ⟨rfl, b20⟩
            have B20 : Below w.heap.size w w20 := hBR.trans (b20.mono hBR.size)
            go_wp2_with fail
            refine (awake_any _).mono ?_
            rintro e w21 ⟨rfl, b21⟩
            have B21 := bnext B20 b21
            go_wp2
            go_ret
            exact ⟨rfl, B21⟩

end Go.Proofs.Ytledgaiekbpndaa
