/- New nodes; a node that fails; one that rises. -/
import Derived.Test.YtledgaiekbpndaaMake
namespace Go.Proofs.Ytledgaiekbpndaa
open Go.RowKit

def mkN (Z : List Int) : List Nod := Z.map fun c => (c, true, 1)
def newP (Z : List Int) : List Nod × Int := if rightB (mkN Z) then (mkN Z, 0) else ([], 2)
def failN (L : List Nod) (k : Nat) : List Nod := L.set k ((nodAt L k).1, false, (nodAt L k).2.2)
def riseN (L : List Nod) (k : Nat) : List Nod := L.set k ((nodAt L k).1, true, (nodAt L k).2.2 + 1)
def failP (L : List Nod) (i : Int) : List Nod × Int :=
  if rightB L && placeB L.length i then if (nodAt L i.toNat).2.1 then (failN L i.toNat, 0) else ([], 180) else ([], 2)
def riseP (L : List Nod) (i : Int) : List Nod × Int :=
  if rightB L && placeB L.length i then if (nodAt L i.toNat).2.1 then ([], 180) else if (nodAt L i.toNat).2.2 = 1073741824 then ([], 120) else (riseN L i.toNat, 0) else ([], 2)

/-- A list of nodes of the call's own, and an error, are told. -/
def NTold (D : List Nod × Int) (w : World) (e : Ending) (w' : World) : Prop :=
  ∃ a c, e = .returned (.tuple #[.slice a D.1.length c, .int .i64 D.2]) ∧ D.1.length ≤ c ∧ DOwn w' w.heap.size (.slice a D.1.length c) D.1 ∧ Below w.heap.size w w'

theorem NTold.none {E : Int} {w w' : World} (h : Below w.heap.size w w') : NTold ([], E) w (.returned (.tuple #[.slice Option.none 0 0, .int .i64 E])) w' := ⟨Option.none, 0, rfl, Nat.le_refl _, DOwn.nil _ _, h⟩

theorem NTold.of {D : List Nod} {E : Int} {w w' : World} {a : Option Addr} {n c : Nat} (hD : D.length = n) (hnc : n ≤ c) (ho : DOwn w' w.heap.size (.slice a n c) D) (hb : Below w.heap.size w w') : NTold (D, E) w (.returned (.tuple #[.slice a n c, .int .i64 E])) w' := by
  subst hD
  exact ⟨a, c, rfl, hnc, ho, hb⟩

theorem mkN_len (Z : List Int) : (mkN Z).length = Z.length := by simp [mkN]
theorem mkN_take {Z : List Int} {j : Nat} (h : j < Z.length) : mkN (Z.take (j + 1)) = mkN (Z.take j) ++ [(Z[j], true, 1)] := by
  rw [take_more h]; unfold mkN; rw [List.map_append]; rfl

set_option maxRecDepth 100000 in
set_option maxHeartbeats 600000 in
theorem new_any (a : Option Addr) (n c : Nat) (Z : List Int) (w : World) (hn : Z.length = n) (hl : n ≤ 4611686018427387904) (hat : CAt w a (Z.map I)) :
    Calls Try.prog 7 #[.slice a n c] w fun e w' => NTold (newP Z) w e w' := by
  obtain ⟨i0, hi0, hz0, hz1, hz2⟩ := info_parts info38
  by_cases h32 : 32 < n
  · have hf := hid (show newP Z = ([], 2) by unfold newP; rw [right_no (by rw [mkN_len]; omega)]; rfl)
    have d1 : decide ((32 : Int) < (n : Int)) = true := by simp; omega
    replace hn := hid hn
    replace hat := hid hat
    go_enter Try.func7, Try.ntmps7
    go_wp2
    go_ret2
    rw [hf.out]
    exact NTold.none (Below.refl _ _)
  have d1 : decide ((32 : Int) < (n : Int)) = false := by simp; omega
  replace hn := hid hn
  replace hat := hid hat
  go_enter Try.func7, Try.ntmps7
  go_wp2_with fail
  go_loopw [4, 12] (fun v i wr => ∃ j : Nat, j ≤ n ∧ i = .int .i64 (j : Int) ∧ DOwn wr w.heap.size v (mkN (Z.take j)) ∧ Below w.heap.size w wr) (fun _ i _ => n - (intOf i).toNat)
  case atStart => exact ⟨0, Nat.zero_le _, rfl, DOwn.nil _ _, Below.refl _ _⟩
  case round =>
    obtain ⟨j, hj, rfl, hv, hb⟩ := hrel
    by_cases hlt : j < n
    · have hjL : j < Z.length := by rw [hn.out]; exact hlt
      obtain ⟨b, o, e⟩ := iat_place hat.out (by intro e; rw [e] at hjL; simp at hjL)
      subst e
      have x0 := iat_cell (CAt.below hat.out hb) j hjL
      have hts := hid (mkN_take hjL)
      have htl : (mkN (Z.take j)).length = j := by rw [mkN_len, List.length_take]; omega
      generalize Z[j] = X at *
      generalize mkN (Z.take j) = T at *
      replace hv := hid hv
      replace htl := hid htl
      go_wp2_with (at_builtin; refine Hid.out ?_)
      have bl := below_lit wr (.cells #[.int .i64 X, .bool true, .int .i64 1] 38)
      have hv2 := hv.out.below bl
      unfold DOwn at hv2
      rw [htl.out] at hv2
      have B1 := bnext hb bl
      refine wpList_cat _ rfl (.tmp 16) (.tmp 19) 23 rfl w.heap.size 38 i0 _ 3 24 Try.underlying23 hi0 hz0 hz1 hz2 rfl (by omega) _ _ _ rfl hv2 (some ⟨wr.heap.size, 0, none⟩) 1 _ [.int .i64 X, .bool true, .int .i64 1] rfl rfl (cat_lit _ _ _ _ rfl) (three_one (X, true, 1)) (by unfold maxLen; omega) (by omega) B1.size ?_
      intro v3 w3 hr3 hg3 hv3
      go_wp2_with fail
      go_roundw
      case rel =>
        refine ⟨j + 1, by omega, by go_num, ?_, ?_⟩
        · rw [hts.out]
          unfold DOwn
          rw [List.length_append, htl.out, nc_snoc]
          exact hr3
        · exact B1.grown hg3 B1.size (fun k hk => (hv2.lt k hk).1)
      case measure => simp [intOf]; omega
    · have hje : j = n := by omega
      subst hje
      have ht : Z.take j = Z := by rw [← hn.out, List.take_length]
      rw [ht] at hv
      obtain ⟨ad, k, rfl, hlk⟩ := owns_form hv
      have hlen : (mkN Z).length = j := by rw [mkN_len]; exact hn.out
      have kR := right_any ad (mkN Z).length k (mkN Z) wr rfl (by omega) hv.dat
      cases hB : rightB (mkN Z)
      · have hf := hid (show newP Z = ([], 2) by unfold newP; rw [hB]; rfl)
        rw [hB] at kR
        replace hB := hid hB
        replace hv := hid hv
        generalize (mkN Z).length = M at *
        replace hlen := hid hlen
        go_wp2_with fail
        refine kR.mono ?_
        rintro e w1 ⟨rfl, hb1⟩
        have B1 := bnext hb hb1
        go_wp2
        go_ret2
        rw [hf.out]
        exact NTold.none B1
      · have hf := hid (show newP Z = (mkN Z, 0) by unfold newP; rw [hB]; rfl)
        rw [hB] at kR
        replace hB := hid hB
        replace hv := hid hv
        obtain ⟨M, hM⟩ : ∃ M, M = (mkN Z).length := ⟨_, rfl⟩
        rw [← hM] at kR hlk ⊢
        replace hM := hid hM
        replace hlen := hid hlen
        go_wp2_with fail
        refine kR.mono ?_
        rintro e w1 ⟨rfl, hb1⟩
        have B1 := bnext hb hb1
        go_wp2
        go_ret2
        rw [hf.out]
        have hv1 := hv.out.below hb1
        rw [← hM.out] at hv1
        exact NTold.of hM.out.symm hlk hv1 B1

theorem copied_of {w w' : World} {L : List Nod} {g n : Nat} (h : DOwn w' w.heap.size (.slice (some ⟨g, 0, none⟩) n n) L) (hn : L.length = n) {k : Nat} (hk : k < n) :
    g < w'.heap.size ∧ w.heap.size ≤ g ∧ (∀ i, w'.frozen? ⟨g, i, none⟩ = false) ∧ w'.cell? ⟨g, k * 3, none⟩ = some (.int .i64 (nodAt L k).1) ∧ w'.cell? ⟨g, k * 3 + 1, none⟩ = some (.bool (nodAt L k).2.1) ∧ w'.cell? ⟨g, k * 3 + 2, none⟩ = some (.int .i64 (nodAt L k).2.2) := by
  subst hn
  obtain ⟨g', c', e, hb, hgl, _, hfz⟩ := owns_spot h (by omega)
  simp only [Value.slice.injEq, Option.some.injEq, Addr.mk.injEq] at e
  obtain ⟨⟨e, _, _⟩, _, _⟩ := e
  subst e
  have h1 := h.dat.one hk
  simp only [Nat.zero_add] at h1
  exact ⟨hgl, hb, hfz, h1⟩

theorem nodAt_set {L : List Nod} {k : Nat} (h : k < L.length) (x : Nod) : nodAt (L.set k x) k = x := by
  rw [← nodAt_eq (by simpa using h)]; simp

set_option maxRecDepth 100000 in
set_option maxHeartbeats 600000 in
theorem fail_any (a : Option Addr) (n c : Nat) (L : List Nod) (i : Int) (w : World) (hn : L.length = n) (hl : n ≤ 4611686018427387904) (hat : DAt w a L) :
    Calls Try.prog 9 #[.slice a n c, .int .i64 i] w fun e w' => NTold (failP L i) w e w' := by
  have kR := right_any a n c L w hn hl hat
  have hpn : placeB L.length i = placeB n i := by rw [hn]
  cases hB : rightB L
  · have hf := hid (show failP L i = ([], 2) by unfold failP; rw [hB]; rfl)
    rw [hB] at kR
    replace hn := hid hn
    replace hat := hid hat
    replace hpn := hid hpn
    replace hB := hid hB
    go_enter Try.func9, Try.ntmps9
    go_wp2_with fail
    refine kR.mono ?_
    rintro e w1 ⟨rfl, hb1⟩
    go_wp2
    go_ret2
    rw [hf.out]
    exact NTold.none hb1
  rw [hB] at kR
  have kP := fun w => isplace_any a n c i w
  cases hP : placeB n i
  · have hf := hid (show failP L i = ([], 2) by unfold failP; rw [hB, hpn, hP]; rfl)
    rw [hP] at kP
    replace hn := hid hn
    replace hat := hid hat
    replace hpn := hid hpn
    replace hB := hid hB
    replace hP := hid hP
    go_enter Try.func9, Try.ntmps9
    go_wp2_with fail
    refine kR.mono ?_
    rintro e w1 ⟨rfl, hb1⟩
    go_wp2_with fail
    refine (kP _).mono ?_
    rintro e w2 ⟨rfl, rfl⟩
    go_wp2
    go_ret2
    rw [hf.out]
    exact NTold.none hb1
  rw [hP] at kP
  obtain ⟨k, rfl, hk⟩ : ∃ k : Nat, i = (k : Int) ∧ k < n := by
    have := of_decide_eq_true hP
    exact ⟨i.toNat, by omega, by omega⟩
  have hjL : k < L.length := by omega
  have hlen := (right_is hB).1
  obtain ⟨b, o, e⟩ := hat.place (by omega)
  subst e
  have hkn : ((k : Int)).toNat = k := by omega
  have hgo : (rightB L && placeB L.length (k : Int)) = true := by rw [hB, hpn, hP]; rfl
  have hep := (right_is hB).2 _ (List.getElem_mem hjL)
  rw [nodAt_eq hjL] at hep
  replace hep := of_decide_eq_true hep
  obtain ⟨_, _, he1, he2⟩ := hep
  have n32 : n ≤ 32 := by omega
  have kC := fun w' (h : Below w.heap.size w w') => copied_any (some ⟨b, o, none⟩) n c L w' hn (by omega) (hat.below h)
  replace hn := hid hn
  replace hat := hid hat
  replace hpn := hid hpn
  replace hB := hid hB
  replace hP := hid hP
  replace hgo := hid hgo
  replace hkn := hid hkn
  replace hlen := hid hlen
  cases hU : (nodAt L k).2.1
  · have hf := hid (show failP L (k : Int) = ([], 180) by unfold failP; rw [hgo.out, hkn.out, hU]; rfl)
    replace kC := hid kC
    go_enter Try.func9, Try.ntmps9
    go_wp2_with fail
    refine kR.mono ?_
    rintro e w1 ⟨rfl, hb1⟩
    obtain ⟨x0, x1, x2⟩ := (hat.out.below hb1).one hjL
    rw [hU] at x1
    go_wp2_with fail
    refine (kP _).mono ?_
    rintro e w2 ⟨rfl, rfl⟩
    go_wp2
    go_ret2
    rw [hf.out]
    exact NTold.none hb1
  · have hf := hid (show failP L (k : Int) = (failN L k, 0) by unfold failP; rw [hgo.out, hkn.out, hU]; rfl)
    go_enter Try.func9, Try.ntmps9
    go_wp2_with fail
    refine kR.mono ?_
    rintro e w1 ⟨rfl, hb1⟩
    obtain ⟨x0, x1, x2⟩ := (hat.out.below hb1).one hjL
    rw [hU] at x1
    go_wp2_with fail
    refine (kP _).mono ?_
    rintro e w2 ⟨rfl, rfl⟩
    go_wp2_with fail
    refine (kC _ hb1).mono ?_
    rintro e w3 ⟨g, rfl, ho, hb3⟩
    have hc := copied_of ho hn.out hk
    obtain ⟨hgl, hgb, hfz, y0, y1, y2⟩ := hc
    have B3 := bnext hb1 hb3
    have hB4 := Below.setCell (p := ⟨g, k * 3 + 1, none⟩) B3 (Nat.le_trans hb1.size hgb) (.bool false)
    have hset := DOwn.set ho hn.out hk ((nodAt L k).1, false, (nodAt L k).2.2) 1 (.bool false) (by omega) rfl
    have hset2 := hset.low hb1.size
    have f1 := hfz (k * 3 + 1)
    clear hfz hset
    replace hset2 := hid hset2
    replace ho := hid ho
    go_wp2
    go_ret2
    rw [hf.out]
    have hln : (failN L k).length = n := by unfold failN; rw [List.length_set]; exact hn.out
    exact NTold.of hln (Nat.le_refl _) hset2.out hB4

set_option maxRecDepth 100000 in
set_option maxHeartbeats 600000 in
theorem rise_any (a : Option Addr) (n c : Nat) (L : List Nod) (i : Int) (w : World) (hn : L.length = n) (hl : n ≤ 4611686018427387904) (hat : DAt w a L) :
    Calls Try.prog 11 #[.slice a n c, .int .i64 i] w fun e w' => NTold (riseP L i) w e w' := by
  have kR := right_any a n c L w hn hl hat
  have hpn : placeB L.length i = placeB n i := by rw [hn]
  cases hB : rightB L
  · have hf := hid (show riseP L i = ([], 2) by unfold riseP; rw [hB]; rfl)
    rw [hB] at kR
    replace hn := hid hn
    replace hat := hid hat
    replace hpn := hid hpn
    replace hB := hid hB
    go_enter Try.func11, Try.ntmps11
    go_wp2_with fail
    refine kR.mono ?_
    rintro e w1 ⟨rfl, hb1⟩
    go_wp2
    go_ret2
    rw [hf.out]
    exact NTold.none hb1
  rw [hB] at kR
  have kP := fun w => isplace_any a n c i w
  cases hP : placeB n i
  · have hf := hid (show riseP L i = ([], 2) by unfold riseP; rw [hB, hpn, hP]; rfl)
    rw [hP] at kP
    replace hn := hid hn
    replace hat := hid hat
    replace hpn := hid hpn
    replace hB := hid hB
    replace hP := hid hP
    go_enter Try.func11, Try.ntmps11
    go_wp2_with fail
    refine kR.mono ?_
    rintro e w1 ⟨rfl, hb1⟩
    go_wp2_with fail
    refine (kP _).mono ?_
    rintro e w2 ⟨rfl, rfl⟩
    go_wp2
    go_ret2
    rw [hf.out]
    exact NTold.none hb1
  rw [hP] at kP
  obtain ⟨k, rfl, hk⟩ : ∃ k : Nat, i = (k : Int) ∧ k < n := by
    have := of_decide_eq_true hP
    exact ⟨i.toNat, by omega, by omega⟩
  have hjL : k < L.length := by omega
  have hlen := (right_is hB).1
  obtain ⟨b, o, e⟩ := hat.place (by omega)
  subst e
  have hkn : ((k : Int)).toNat = k := by omega
  have hgo : (rightB L && placeB L.length (k : Int)) = true := by rw [hB, hpn, hP]; rfl
  have hep := (right_is hB).2 _ (List.getElem_mem hjL)
  rw [nodAt_eq hjL] at hep
  replace hep := of_decide_eq_true hep
  obtain ⟨_, _, he1, he2⟩ := hep
  have n32 : n ≤ 32 := by omega
  have kC := fun w' (h : Below w.heap.size w w') => copied_any (some ⟨b, o, none⟩) n c L w' hn (by omega) (hat.below h)
  replace hn := hid hn
  replace hat := hid hat
  replace hpn := hid hpn
  replace hB := hid hB
  replace hP := hid hP
  replace hgo := hid hgo
  replace hkn := hid hkn
  replace hlen := hid hlen
  cases hU : (nodAt L k).2.1
  · by_cases h30 : (nodAt L k).2.2 = 1073741824
    · have hf := hid (show riseP L (k : Int) = ([], 120) by unfold riseP; rw [hgo.out, hkn.out, hU, if_pos h30]; rfl)
      replace kC := hid kC
      go_enter Try.func11, Try.ntmps11
      go_wp2_with fail
      refine kR.mono ?_
      rintro e w1 ⟨rfl, hb1⟩
      obtain ⟨x0, x1, x2⟩ := (hat.out.below hb1).one hjL
      rw [hU] at x1
      go_wp2_with fail
      refine (kP _).mono ?_
      rintro e w2 ⟨rfl, rfl⟩
      rw [h30] at x2
      go_wp2
      go_ret2
      rw [hf.out]
      exact NTold.none hb1
    have hf := hid (show riseP L (k : Int) = (riseN L k, 0) by unfold riseP; rw [hgo.out, hkn.out, hU, if_neg h30]; rfl)
    have d30 : ((nodAt L k).2.2 == 1073741824) = false := by simpa using h30
    have hwr : IntKind.i64.wrap ((nodAt L k).2.2 + 1) = (nodAt L k).2.2 + 1 := by rw [IntKind.wrap_i64]; omega
    go_enter Try.func11, Try.ntmps11
    go_wp2_with fail
    refine kR.mono ?_
    rintro e w1 ⟨rfl, hb1⟩
    obtain ⟨x0, x1, x2⟩ := (hat.out.below hb1).one hjL
    rw [hU] at x1
    go_wp2_with fail
    refine (kP _).mono ?_
    rintro e w2 ⟨rfl, rfl⟩
    go_wp2_with fail
    refine (kC _ hb1).mono ?_
    rintro e w3 ⟨g, rfl, ho, hb3⟩
    have hc := copied_of ho hn.out hk
    obtain ⟨hgl, hgb, hfz, y0, y1, y2⟩ := hc
    have B3 := bnext hb1 hb3
    have hB4 := Below.setCell (p := ⟨g, k * 3 + 2, none⟩) (Below.setCell (p := ⟨g, k * 3 + 1, none⟩) B3 (Nat.le_trans hb1.size hgb) (.bool true)) (Nat.le_trans hb1.size hgb) (.int .i64 ((nodAt L k).2.2 + 1))
    have hset := DOwn.set ho hn.out hk ((nodAt L k).1, true, (nodAt L k).2.2) 1 (.bool true) (by omega) rfl
    have hset2 := DOwn.set hset (by rw [List.length_set]; exact hn.out) hk ((nodAt L k).1, true, (nodAt L k).2.2 + 1) 2 (.int .i64 ((nodAt L k).2.2 + 1)) (by omega) (by rw [nodAt_set hjL]; rfl)
    rw [List.set_set] at hset2
    replace hset2 := hid (hset2.low hb1.size)
    have f1 := hfz (k * 3 + 1)
    have f2 := hfz (k * 3 + 2)
    clear hfz hset
    replace ho := hid ho
    generalize hX : nodAt L k = X at *
    replace hX := hid hX
    obtain ⟨X0, X1, X2⟩ := X
    dsimp only at *
    go_wp2
    go_ret2
    rw [hf.out]
    have hln : (riseN L k).length = n := by unfold riseN; rw [List.length_set]; exact hn.out
    exact NTold.of hln (Nat.le_refl _) (by unfold riseN; rw [hX.out]; exact hset2.out) hB4
  · have hf := hid (show riseP L (k : Int) = ([], 180) by unfold riseP; rw [hgo.out, hkn.out, hU]; rfl)
    replace kC := hid kC
    go_enter Try.func11, Try.ntmps11
    go_wp2_with fail
    refine kR.mono ?_
    rintro e w1 ⟨rfl, hb1⟩
    obtain ⟨x0, x1, x2⟩ := (hat.out.below hb1).one hjL
    rw [hU] at x1
    go_wp2_with fail
    refine (kP _).mono ?_
    rintro e w2 ⟨rfl, rfl⟩
    go_wp2
    go_ret2
    rw [hf.out]
    exact NTold.none hb1

end Go.Proofs.Ytledgaiekbpndaa
