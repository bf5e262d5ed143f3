/- QuotaAdds: what two groups of jobs use adds up. -/
import Derived.Test.YtpebhjncdfcmnaaWithin
namespace Go.Proofs.Ytpebhjncdfcmnaa
open Go.RowKit
set_option linter.unusedVariables false

theorem coN_re (s : Spc) (x : Option Addr) (y : Nat) : coN (s.re x y) = coN s := rfl
theorem hit_re {p : Spc → Bool} (hp : ∀ s x y, p (s.re x y) = p s) (j : Job) (x : Option Addr) (y : Nat) : hit p (j.re x y) = hit p j := by
  unfold hit
  have e1 : (j.re x y).st = j.st := rfl
  have e2 : (j.re x y).s = j.s.re x y := rfl
  rw [e1, e2, hp]
theorem tot_re {p : Spc → Bool} (hp : ∀ s x y, p (s.re x y) = p s) : ∀ (A B : List (Job × List Dp)), ReJ A B → tot p (B.map (·.1)) = tot p (A.map (·.1)) ∧ num p (B.map (·.1)) = num p (A.map (·.1))
  | [], [], _ => ⟨rfl, rfl⟩
  | a :: r, b :: t, h => by
    obtain ⟨⟨x, y, h1⟩, _, h2⟩ := h
    obtain ⟨i1, i2⟩ := tot_re hp r t h2
    constructor
    · show (if hit p b.1 = true then coN b.1.s else 0) + tot p (t.map (·.1)) = (if hit p a.1 = true then coN a.1.s else 0) + tot p (r.map (·.1))
      rw [i1, h1, hit_re hp]; rfl
    · show (if hit p b.1 = true then 1 else 0) + num p (t.map (·.1)) = (if hit p a.1 = true then 1 else 0) + num p (r.map (·.1))
      rw [i2, h1, hit_re hp]
  | [], _ :: _, h => by cases h
  | _ :: _, [], h => by cases h
theorem tame_re : ∀ (A B : List (Job × List Dp)), ReJ A B → (∀ j ∈ A.map (·.1), Tame j.s) → ∀ j ∈ B.map (·.1), Tame j.s
  | [], [], _, _, j, hj => by cases hj
  | a :: r, b :: t, h, hT, j, hj => by
    obtain ⟨⟨x, y, h1⟩, _, h2⟩ := h
    rw [List.map_cons] at hj
    rcases List.mem_cons.1 hj with rfl | hj
    · rw [h1]
      exact hT a.1 (by simp)
    · exact tame_re r t h2 (fun q hq => hT q (by rw [List.map_cons]; exact List.mem_cons_of_mem _ hq)) j hj
  | [], _ :: _, h, _, _, _ => by cases h
  | _ :: _, [], h, _, _, _ => by cases h
theorem tot_idle {p : Spc → Bool} : ∀ (L : List Job), (∀ j ∈ L, ¬ j.st = 2) → tot p L = 0 ∧ num p L = 0
  | [], _ => ⟨rfl, rfl⟩
  | j :: r, h => by
    obtain ⟨i1, i2⟩ := tot_idle (p := p) r (fun q hq => h q (List.mem_cons_of_mem _ hq))
    have hj : hit p j = false := by
      unfold hit
      rw [decide_eq_false (h j List.mem_cons_self)]; rfl
    simp only [tot, num, hj, i1, i2]
    exact ⟨rfl, rfl⟩
theorem num_le (p : Spc → Bool) : ∀ (L : List Job), num p L ≤ L.length
  | [] => Nat.le_refl _
  | j :: r => by
    have := num_le p r
    simp only [num, List.length_cons]
    split <;> omega

set_option maxRecDepth 100000 in
set_option maxHeartbeats 8000000 in
theorem adds_any (ca pa aa qa : Option Addr) (cn cc pn pc ak az qk qc : Nat) (pol : Int) (A : List Acc) (Q : List Qu) (a1 : Option Addr) (k1 c1 : Nat) (M1 : List (Job × List Dp)) (a2 : Option Addr) (k2 c2 : Nat) (M2 : List (Job × List Dp)) (w : World) (hA : A.length = ak) (hac : ak ≤ az) (hQ : Q.length = qk) (hatA : AAt w aa A) (hatQ : QAt w qa Q)
    (hn1 : M1.length = k1) (hl1 : k1 ≤ 4611686018427387903) (hat1 : JAt w a1 (M1.map (·.1))) (hin1 : JIn w M1) (hn2 : M2.length = k2) (hl2 : k2 ≤ 4611686018427387903) (hat2 : JAt w a2 (M2.map (·.1))) (hin2 : JIn w M2) :
    Calls Try.prog 5 #[.agg #[.slice ca cn cc, .slice pa pn pc, .slice aa ak az, .slice qa qk qc, .int .u8 pol], .slice a1 k1 c1, .slice a2 k2 c2] w fun e w' => e = .returned (.bool true) ∧ Below w.heap.size w w' := by
  obtain ⟨i0, hi, hz0, hz1, hz2⟩ := info_parts info53
  obtain ⟨W0, hW0⟩ : ∃ W0, W0 = w.alloc (.cells #[.slice ca cn cc, .slice pa pn pc, .slice aa ak az, .slice qa qk qc, .int .u8 pol] 28) := ⟨_, rfl⟩
  have bl := below_lit w (.cells #[.slice ca cn cc, .slice pa pn pc, .slice aa ak az, .slice qa qk qc, .int .u8 pol] 28)
  have cl := lit_range w 28 [.slice ca cn cc, .slice pa pn pc, .slice aa ak az, .slice qa qk qc, .int .u8 pol]
  have v0 := cl 0 _ rfl
  have v1 := cl 1 _ rfl
  have v2 := cl 2 _ rfl
  have v3 := cl 3 _ rfl
  have v4 := cl 4 _ rfl
  simp only [Nat.zero_add] at v0 v1 v2 v3 v4
  clear cl
  have hm1 : (M1.map (·.1)).length = k1 := by rw [List.length_map]; exact hn1
  have hm2 : (M2.map (·.1)).length = k2 := by rw [List.length_map]; exact hn2
  have kW1 := wilds_any a1 k1 c1 (M1.map (·.1)) _ hm1 (by omega) (hat1.below bl)
  rw [← hW0] at bl v0 v1 v2 v3 v4 kW1
  have kW2 := fun wx (hb : Below w.heap.size w wx) => wilds_any a2 k2 c2 (M2.map (·.1)) wx hm2 (by omega) (hat2.below hb)
  have kR := fun wx (hb : Below w.heap.size w wx) => conf_any ca pa aa qa cn cc pn pc ak az qk qc pol A Q wx hA hac hQ (hatA.below hb) (hatQ.below hb)
  have hs0 : W0.heap.size = w.heap.size + 1 := by rw [hW0, size_lit]
  by_cases h200 : 200 < k1 + k2
  · have d200 : decide ((200 : Int) < (k1 : Int) + (k2 : Int)) = true := decide_eq_true (by omega)
    clear kW1 kW2 kR
    replace hA := hid hA
    replace hQ := hid hQ
    replace hatA := hid hatA
    replace hatQ := hid hatQ
    replace hn1 := hid hn1
    replace hat1 := hid hat1
    replace hin1 := hid hin1
    replace hn2 := hid hn2
    replace hat2 := hid hat2
    replace hin2 := hid hin2
    go_enter Try.func5, Try.ntmps5
    go_wp2_with fail
    rw [← hW0]
    have DD := bl
    refine (awake_any _).mono ?_
    rintro e wz ⟨rfl, hbz⟩
    have Dz := bnext DD hbz
    go_wp2
    go_ret
    exact ⟨rfl, Dz⟩
  have d200 : decide ((200 : Int) < (k1 : Int) + (k2 : Int)) = false := decide_eq_false (by omega)
  cases hw1 : wildsB (M1.map (·.1)) with
  | true =>
    rw [hw1] at kW1
    clear kW2 kR
    replace hw1 := hid hw1
    replace hA := hid hA
    replace hQ := hid hQ
    replace hatA := hid hatA
    replace hatQ := hid hatQ
    replace hn1 := hid hn1
    replace hat1 := hid hat1
    replace hin1 := hid hin1
    replace hn2 := hid hn2
    replace hat2 := hid hat2
    replace hin2 := hid hin2
    go_enter Try.func5, Try.ntmps5
    go_wp2_with fail
    rw [← hW0]
    refine kW1.mono ?_
    rintro e w1 ⟨rfl, hb1⟩
    have DD := bnext bl hb1
    go_wp2_with fail
    refine (awake_any _).mono ?_
    rintro e wz ⟨rfl, hbz⟩
    have Dz := bnext DD hbz
    go_wp2
    go_ret
    exact ⟨rfl, Dz⟩
  | false =>
    rw [hw1] at kW1
    have hT1 := wilds_no hw1
    replace hw1 := hid hw1
    cases hw2 : wildsB (M2.map (·.1)) with
    | true =>
      rw [hw2] at kW2
      clear kR
      replace hw2 := hid hw2
      replace hT1 := hid hT1
      replace hA := hid hA
      replace hQ := hid hQ
      replace hatA := hid hatA
      replace hatQ := hid hatQ
      replace hn1 := hid hn1
      replace hat1 := hid hat1
      replace hin1 := hid hin1
      replace hn2 := hid hn2
      replace hat2 := hid hat2
      replace hin2 := hid hin2
      go_enter Try.func5, Try.ntmps5
      go_wp2_with fail
      rw [← hW0]
      refine kW1.mono ?_
      rintro e w1 ⟨rfl, hb1⟩
      have D1 := bnext bl hb1
      go_wp2_with fail
      refine (kW2 _ D1).mono ?_
      rintro e w2 ⟨rfl, hb2⟩
      have DD := bnext D1 hb2
      go_wp2_with fail
      refine (awake_any _).mono ?_
      rintro e wz ⟨rfl, hbz⟩
      have Dz := bnext DD hbz
      go_wp2
      go_ret
      exact ⟨rfl, Dz⟩
    | false =>
      rw [hw2] at kW2
      have hT2 := wilds_no hw2
      replace hw2 := hid hw2
      cases hR : confB A Q with
      | false =>
        rw [hR] at kR
        replace hR := hid hR
        replace hT1 := hid hT1
        replace hT2 := hid hT2
        replace hA := hid hA
        replace hQ := hid hQ
        replace hatA := hid hatA
        replace hatQ := hid hatQ
        replace hn1 := hid hn1
        replace hat1 := hid hat1
        replace hin1 := hid hin1
        replace hn2 := hid hn2
        replace hat2 := hid hat2
        replace hin2 := hid hin2
        go_enter Try.func5, Try.ntmps5
        go_wp2_with fail
        rw [← hW0]
        refine kW1.mono ?_
        rintro e w1 ⟨rfl, hb1⟩
        have D1 := bnext bl hb1
        go_wp2_with fail
        refine (kW2 _ D1).mono ?_
        rintro e w2 ⟨rfl, hb2⟩
        have D2 := bnext D1 hb2
        have b2 := bnext hb1 hb2
        replace v0 := stay b2 v0
        replace v1 := stay b2 v1
        replace v2 := stay b2 v2
        replace v3 := stay b2 v3
        replace v4 := stay b2 v4
        go_wp2_with fail
        refine (kR _ D2).mono ?_
        rintro e w3 ⟨rfl, hb3⟩
        have DD := bnext D2 hb3
        go_wp2_with fail
        refine (awake_any _).mono ?_
        rintro e wz ⟨rfl, hbz⟩
        have Dz := bnext DD hbz
        go_wp2
        go_ret
        exact ⟨rfl, Dz⟩
      | true =>
        rw [hR] at kR
        obtain ⟨hRA, hRQ⟩ := conf_is.1 hR
        have hl16 : ak ≤ 16 := by rw [← hA]; exact (right_is.1 hRA).2.1
        have hla1 : 1 ≤ ak := by rw [← hA]; exact (right_is.1 hRA).1
        have hl8 : qk ≤ 8 := by rw [← hQ]; exact (qright_is.1 hRQ).2.1
        have hlq1 : 1 ≤ qk := by rw [← hQ]; exact (qright_is.1 hRQ).1
        obtain ⟨b, o, e⟩ := hatA.place (by omega)
        subst e
        obtain ⟨qb, qo, e⟩ := hatQ.place (by omega)
        subst e
        have kC2 : ∀ (L : List Job) (a : Option Addr) (k c : Nat) n i, fi A n = some i → ∀ wx, Below w.heap.size w wx → L.length = k → k ≤ 1048576 → JAt wx a L → (∀ j ∈ L, Tame j.s) → Calls Try.prog 11 #[.agg #[.slice ca cn cc, .slice pa pn pc, .slice (some ⟨b, o, none⟩) ak az, .slice (some ⟨qb, qo, none⟩) qk qc, .int .u8 pol], .slice a k c, .string n] wx fun e w' => e = .returned (.tuple #[.int .i64 ((tot (onP A n) L : Nat) : Int), .int .i64 0]) ∧ Below wx.heap.size wx w' := fun L a k c n i h wx hb hn hl hat hT => by
          have := cores_any ca pa (some ⟨b, o, none⟩) (some ⟨qb, qo, none⟩) cn cc pn pc ak az qk qc pol A Q a k c L n wx hA hac hQ (hatA.below hb) (hatQ.below hb) hn (by omega) hat
          have he := c_err hR h
          rw [c_val he, he, cnt_tot _ hT (by omega)] at this
          exact this
        have kQ2 : ∀ (L : List Job) (a : Option Addr) (k c : Nat) n i, qi Q n = some i → ∀ wx, Below w.heap.size w wx → L.length = k → k ≤ 1048576 → JAt wx a L → (∀ j ∈ L, Tame j.s) → Calls Try.prog 13 #[.agg #[.slice ca cn cc, .slice pa pn pc, .slice (some ⟨b, o, none⟩) ak az, .slice (some ⟨qb, qo, none⟩) qk qc, .int .u8 pol], .slice a k c, .string n] wx fun e w' => e = .returned (.tuple #[.int .i64 ((tot (inP n) L : Nat) : Int), .int .i64 ((num (inP n) L : Nat) : Int), .int .i64 0]) ∧ Below wx.heap.size wx w' := fun L a k c n i h wx hb hn hl hat hT => by
          have := qos_any ca pa (some ⟨b, o, none⟩) (some ⟨qb, qo, none⟩) cn cc pn pc ak az qk qc pol A Q a k c L n wx hA hac hQ (hatA.below hb) (hatQ.below hb) hn (by omega) hat
          have he := q_err hR h
          rw [q_val he, q_num he, he, cnt_tot _ hT (by omega)] at this
          exact this
        have kP1 := fun wx (hb : Below w.heap.size w wx) => copyJ a1 k1 c1 M1 wx hn1 (by omega) (hat1.below hb) (hin1.below hb)
        have kP2 := fun wx (hb : Below w.heap.size w wx) => copyJ a2 k2 c2 M2 wx hn2 (by omega) (hat2.below hb) (hin2.below hb)
        replace hR := hid hR
        replace hRA := hid hRA
        replace hRQ := hid hRQ
        replace hT1 := hid hT1
        replace hT2 := hid hT2
        replace kC2 := hid kC2
        replace kQ2 := hid kQ2
        replace kP1 := hid kP1
        replace kP2 := hid kP2
        replace hm1 := hid hm1
        replace hm2 := hid hm2
        replace hA := hid hA
        replace hQ := hid hQ
        replace hatA := hid hatA
        replace hatQ := hid hatQ
        replace hn1 := hid hn1
        replace hat1 := hid hat1
        replace hin1 := hid hin1
        replace hn2 := hid hn2
        replace hat2 := hid hat2
        replace hin2 := hid hin2
        go_enter Try.func5, Try.ntmps5
        go_wp2_with fail
        rw [← hW0]
        replace hW0 := hid hW0
        refine kW1.mono ?_
        rintro e w1 ⟨rfl, hb1⟩
        have D1 := bnext bl hb1
        clear kW1
        go_wp2_with fail
        refine (kW2 _ D1).mono ?_
        rintro e w2 ⟨rfl, hb2⟩
        have D2 := bnext D1 hb2
        have b2 := bnext hb1 hb2
        replace v0 := stay b2 v0
        replace v1 := stay b2 v1
        replace v2 := stay b2 v2
        replace v3 := stay b2 v3
        replace v4 := stay b2 v4
        clear kW2
        go_wp2_with fail
        refine (kR _ D2).mono ?_
        rintro e w3 ⟨rfl, hb3⟩
        have D3 := bnext D2 hb3
        clear kR
        go_wp2_with fail
        refine (kP1.out _ D3).mono ?_
        rintro e w4 ⟨ra1, rc1, N1, rfl, hrc1, hJO1, hre1, hb4⟩
        have D4 := bnext D3 hb4
        have hw3s : w.heap.size < w3.heap.size := by have := bl.size; have := b2.size; have := hb3.size; omega
        go_wp2_with fail
        refine (kP2.out _ D4).mono ?_
        rintro e w5 ⟨ra2, rc2, N2, rfl, hrc2, hJO2, hre2, hb5⟩
        have D5 := bnext D4 hb5
        have hN1 : N1.length = k1 := by rw [reJ_len hre1]; exact hn1.out
        have hN2 : N2.length = k2 := by rw [reJ_len hre2]; exact hn2.out
        have o1 := hid (owns_below (show w4.ownsRow w3.heap.size 53 17 (.slice ra1 k1 rc1) k1 ((N1.map (·.1)).flatMap jc) by have := hJO1.own; rwa [hN1] at this) hb5)
        have hat5 := hid (show CAt w5 ra2 ((N2.map (·.1)).flatMap jc) from owns_cat hJO2.own)
        have hlen5 := hid (show ((N2.map (·.1)).flatMap jc).length = k2 * 17 by rw [flat_len jc 17 jc_len, List.length_map, hN2])
        have hone5 := hid (show ∀ u ∈ (N2.map (·.1)).flatMap jc, u.oneCell' = true from fun u hu => by
          obtain ⟨j, _, hj⟩ := List.mem_flatMap.1 hu
          exact jc_one j u hj)
        have hs35 : w3.heap.size ≤ w5.heap.size := by have := hb4.size; have := hb5.size; omega
        have b5 := bnext hb3 (bnext hb4 hb5)
        replace hN1 := hid hN1
        replace hN2 := hid hN2
        replace hJO1 := hid hJO1
        replace hJO2 := hid hJO2
        replace v0 := hid (stay b5 v0)
        replace v1 := hid (stay b5 v1)
        replace v2 := hid (stay b5 v2)
        replace v3 := hid (stay b5 v3)
        replace v4 := hid (stay b5 v4)
        have h12 : k1 + k2 ≤ 200 := by omega
        go_wp2_with (at_builtin; refine Hid.out ?_)
        refine wpList_cat _ rfl (.tmp 53) (.tmp 55) 29 rfl w3.heap.size 53 i0 _ 17 184 Try.underlying29 hi hz0 hz1 hz2 rfl (by omega) _ _ _ rfl o1.out ra2 k2 rc2 ((N2.map (·.1)).flatMap jc) rfl hlen5.out hat5.out hone5.out (by unfold maxLen; omega) (by omega) hs35 ?_
        intro v' w6 ho6 hg6 hv6
        have kp6 := Kp.grown hg6
        have D6 : Below w3.heap.size w5 w6 := Below.grown (Below.refl _ _) hg6 hs35 (fun j hj => (o1.out.lt _ hj).1)
        have E6 : Below w.heap.size w w6 := by
          have := Below.grown (B := w.heap.size) D5 hg6 (Nat.le_trans (Nat.le_of_lt hw3s) hs35) (fun j hj => by have := (o1.out.lt _ hj).1; omega)
          exact this
        have hny : ∀ r v, w5.cell? ⟨w.heap.size, r, none⟩ = some v → w6.cell? ⟨w.heap.size, r, none⟩ = some v := fun r v h => by
          rw [World.cell?_of_block (w := w5) (a := ⟨w.heap.size, r, none⟩) (D6.block _ hw3s)]; exact h
        replace v0 := hid (hny _ _ v0.out)
        replace v1 := hid (hny _ _ v1.out)
        replace v2 := hid (hny _ _ v2.out)
        replace v3 := hid (hny _ _ v3.out)
        replace v4 := hid (hny _ _ v4.out)
        obtain ⟨B, hB⟩ : ∃ B, B = N1.map (·.1) ++ N2.map (·.1) := ⟨_, rfl⟩
        have hBl : Hid (B.length = k1 + k2) := hid (by rw [hB, List.length_append, List.length_map, List.length_map, hN1.out, hN2.out])
        have hBT : Hid (∀ j ∈ B, Tame j.s) := hid (fun j hj => by
          rw [hB] at hj
          rcases List.mem_append.1 hj with h | h
          · exact tame_re M1 N1 hre1 hT1.out j h
          · exact tame_re M2 N2 hre2 hT2.out j h)
        have hBt : Hid (∀ p : Spc → Bool, (∀ s x y, p (s.re x y) = p s) → tot p B = tot p (M1.map (·.1)) + tot p (M2.map (·.1)) ∧ num p B = num p (M1.map (·.1)) + num p (M2.map (·.1))) := hid (fun p hp => by
          rw [hB, tot_append, num_append, (tot_re hp M1 N1 hre1).1, (tot_re hp M1 N1 hre1).2, (tot_re hp M2 N2 hre2).1, (tot_re hp M2 N2 hre2).2]
          exact ⟨rfl, rfl⟩)
        obtain ⟨va, vc, e, hvc⟩ := owns_form ho6
        subst e
        have hJB : Hid (JAt w6 va B) := hid (by
          have := owns_cat ho6
          unfold JAt
          rw [hB, List.flatMap_append]
          exact this)
        clear ho6 hg6 hv6 kp6 hny hat5 hlen5 hone5 o1 hB
        generalize hkk : k1 + k2 = kb at *
        go_wp2_with fail
        go_loopw [8, 59] (fun v i wr => ∃ (j n : Nat) (L : List Job) (ia : Option Addr) (ic0 : Nat), j ≤ kb ∧ n ≤ j ∧ v = .slice ia n ic0 ∧ i = .int .i64 (j : Int) ∧ Hid (wr.ownsRow w6.heap.size 53 17 (.slice ia n ic0) n (L.flatMap jc) ∧ L.length = n ∧ (∀ x ∈ L, Tame x.s) ∧ (∀ x ∈ L, ¬ x.st = 2)) ∧ Below w6.heap.size w6 wr) (fun _ i _ => kb - (intOf i).toNat)
        case atStart => exact ⟨0, 0, [], none, 0, Nat.zero_le _, Nat.le_refl _, rfl, rfl, hid ⟨World.ownsRow_nil _ _ _ _, rfl, (fun x h => by cases h), (fun x h => by cases h)⟩, Below.refl _ _⟩
        case round =>
          obtain ⟨j, n, L, ia, ic0, hj, hnj, rfl, rfl, hin, hb⟩ := hrel
          by_cases hlt : j < kb
          · have hjB : j < B.length := by rw [hBl.out]; exact hlt
            obtain ⟨bb, bo, e⟩ := hJB.out.place (by omega)
            subst e
            have hcj := hid ((hJB.out.below hb).range hjB)
            have hTj := hid (hBT.out (jobAt B j) (by rw [← jobAt_eq hjB]; exact List.getElem_mem hjB))
            generalize jobAt B j = J at *
            have bl2 := below_lit wr (.cells (jc J).toArray 53)
            have d2 := bnext hb bl2
            have c11 := lit_cell wr 53 (jc J).toArray 11 (.int .u8 J.st) rfl
            obtain ⟨ho0, hLn, hLt, hLi⟩ := hin.out
            clear hin
            replace hLn := hid hLn
            replace hLt := hid hLt
            replace hLi := hid hLi
            by_cases hst : J.st = 2
            · rw [hst] at c11
              have o2 := hid (owns_below ho0 bl2)
              replace ho0 := hid ho0
              replace hst := hid hst
              go_wp2_with (first
                | (refine wpList_load_mid rfl 53 (.tmp 61) rfl bb (bo + j * 17) rfl (jc J) _ hcj.out Try.underlying53 rfl (by kernel_rfl) ?_)
                | (refine wpList_store_row rfl 53 (.tmp 10) (.tmp 62) rfl wr.heap.size (jc J).toArray rfl rfl 53 _ (heap_alloc_new wr _) (by kernel_rfl) rfl (jc_all J) ?_; rw [alloc_setRow]))
              go_roundw
              case rel => exact ⟨j + 1, n, L, ia, ic0, by omega, by omega, rfl, by go_num, hid ⟨o2.out, hLn.out, hLt.out, hLi.out⟩, d2⟩
              case measure => simp [intOf]; omega
            · have bl3 := below_lit (wr.alloc (.cells (jc J).toArray 53)) (.cells (jc J).toArray 53)
              have d3 := bnext d2 bl3
              have o3 := hid (owns_below (owns_below ho0 bl2) bl3)
              replace ho0 := hid ho0
              have hcat := cat_lit (wr.alloc (.cells (jc J).toArray 53)) 53 (jc J) (jc J).toArray rfl
              rw [size_lit] at hcat
              replace hcat := hid hcat
              have hone := hid (jc_one J)
              have hrow : Hid ((wr.alloc (.cells (jc J).toArray 53)).heap[wr.heap.size]? = some (.cells (jc J).toArray 53 (0, 0))) := hid (heap_alloc_new wr _)
              go_wp2_with (first
                | (refine wpList_load_mid rfl 53 (.tmp 61) rfl bb (bo + j * 17) rfl (jc J) _ hcj.out Try.underlying53 rfl (by kernel_rfl) ?_)
                | (refine wpList_store_row rfl 53 (.tmp 10) (.tmp 62) rfl wr.heap.size (jc J).toArray rfl rfl 53 _ (heap_alloc_new wr _) (by kernel_rfl) rfl (jc_all J) ?_; rw [alloc_setRow])
                | (refine wpList_load_row rfl 53 (.tmp 10) rfl wr.heap.size rfl 53 (jc J).toArray (0, 0) _ hrow.out Try.underlying53 rfl (by kernel_rfl) ?_)
                | (refine wpList_one rfl 29 53 (.tmp 67) rfl (jc J).toArray 17 i0 _ Try.underlying29 hi hz0 hz1 (by omega) (by omega) rfl rfl ?_)
                | (at_builtin; refine Hid.out ?_))
              refine wpList_cat _ rfl (.tmp 66) (.tmp 68) 29 rfl w6.heap.size 53 i0 _ 17 184 Try.underlying29 hi hz0 hz1 hz2 rfl (by omega) _ _ _ rfl o3.out _ 1 1 (jc J) rfl rfl hcat.out hone.out (by unfold maxLen; omega) (by omega) d3.size ?_
              intro v' w7 ho7 hg7 hv7
              have d7 : Below w6.heap.size w6 w7 := Below.grown d3 hg7 d3.size (fun j hj => (o3.out.lt _ hj).1)
              obtain ⟨ia2, ic2, e, hic2⟩ := owns_form ho7
              subst e
              have o7 : Hid (w7.ownsRow w6.heap.size 53 17 (.slice ia2 (n + 1) ic2) (n + 1) ((L ++ [J]).flatMap jc)) := hid (by rw [List.flatMap_append]; simpa using ho7)
              clear ho7 hg7 hv7 hcat hone o3
              go_wp2_with fail
              go_roundw
              case rel =>
                exact ⟨j + 1, n + 1, L ++ [J], ia2, ic2, by omega, by omega, rfl, by go_num, hid ⟨o7.out, by rw [List.length_append, hLn.out]; rfl, (fun x hx => by
                  rcases List.mem_append.1 hx with h | h
                  · exact hLt.out x h
                  · rw [List.mem_singleton.1 h]; exact hTj.out), (fun x hx => by
                  rcases List.mem_append.1 hx with h | h
                  · exact hLi.out x h
                  · rw [List.mem_singleton.1 h]; exact hst)⟩, d7⟩
              case measure => simp [intOf]; omega
          · have hje : j = kb := by omega
            subst hje
            obtain ⟨ho0, hLn, hLt, hLi⟩ := hin.out
            clear hin
            have hJI : Hid (JAt wr ia L) := hid (owns_cat ho0)
            clear ho0
            obtain ⟨wi, hwi⟩ : ∃ wi, wi = wr := ⟨_, rfl⟩
            subst hwi
            have F0 := bnext E6 hb
            have z0 := hid (stay hb v0.out)
            have z1 := hid (stay hb v1.out)
            have z2 := stay hb v2.out
            have z3 := hid (stay hb v3.out)
            have z4 := hid (stay hb v4.out)
            have hJB2 := hid (hJB.out.below hb)
            replace hLn := hid hLn
            replace hLt := hid hLt
            replace hLi := hid hLi
            go_wp2_with fail
            replace z2 := hid z2
            go_loopw [74] (fun i wr => ∃ j : Nat, j ≤ ak ∧ i = .int .i64 (j : Int) ∧ Below wi.heap.size wi wr) (fun i _ => ak - (intOf i).toNat)
            case atStart => exact ⟨0, Nat.zero_le _, rfl, Below.refl _ _⟩
            case round =>
              obtain ⟨i, hi2, rfl, hb7⟩ := hrel
              have F7 := bnext F0 hb7
              by_cases hlt2 : i < ak
              · have hiA : i < A.length := by rw [hA.out]; exact hlt2
                obtain ⟨x0, x1, x2⟩ := (hatA.out.below F7).one hiA
                have hfi := hid (right_name hRA.out hiA)
                generalize accAt A i = X at *
                obtain ⟨X0, X1, X2⟩ := X
                dsimp only at *
                have bl1 := below_lit wr (.cells #[.string X0, .string X1, .int .i64 X2] 57)
                have f1 := bnext hb7 bl1
                have F1 := bnext F0 f1
                have y0 := stay f1 z0.out
                have y1 := stay f1 z1.out
                have y2 := stay f1 z2.out
                have y3 := stay f1 z3.out
                have y4 := stay f1 z4.out
                have c0 := lit_cell wr 57 #[.string X0, .string X1, .int .i64 X2] 0 _ rfl
                have q1 := hid (fun wx (h : Below wi.heap.size wi wx) => kC2.out (M1.map (·.1)) a1 k1 c1 X0 i hfi.out wx (bnext F0 h) hm1.out (by omega) (hat1.out.below (bnext F0 h)) hT1.out)
                have q2 := hid (fun wx (h : Below wi.heap.size wi wx) => kC2.out (M2.map (·.1)) a2 k2 c2 X0 i hfi.out wx (bnext F0 h) hm2.out (by omega) (hat2.out.below (bnext F0 h)) hT2.out)
                have q3 := hid (fun wx (h : Below wi.heap.size wi wx) => kC2.out B va j vc X0 i hfi.out wx (bnext F0 h) hBl.out (by omega) (hJB2.out.below h) hBT.out)
                have q4 := hid (fun wx (h : Below wi.heap.size wi wx) => kC2.out L ia n ic0 X0 i hfi.out wx (bnext F0 h) hLn.out (by omega) (hJI.out.below h) hLt.out)
                rw [(hBt.out (onP A X0) (on_re A X0)).1] at q3
                rw [(tot_idle (p := onP A X0) L hLi.out).1] at q4
                have t1 := tot_le (p := onP A X0) (M1.map (·.1)) hT1.out
                have t2 := tot_le (p := onP A X0) (M2.map (·.1)) hT2.out
                rw [hm1.out] at t1
                rw [hm2.out] at t2
                generalize tot (onP A X0) (M1.map (·.1)) = T1 at *
                generalize tot (onP A X0) (M2.map (·.1)) = T2 at *
                have q3c : ((T1 + T2 : Nat) : Int) = (T1 : Int) + (T2 : Int) := by omega
                rw [q3c] at q3
                replace t1 : T1 ≤ 819200 := by omega
                replace t2 : T2 ≤ 819200 := by omega
                clear q3c
                go_wp2_with fail
                refine (q1.out _ f1).mono ?_
                rintro e g1 ⟨rfl, hg1⟩
                have f2 := bnext f1 hg1
                replace y0 := stay hg1 y0
                replace y1 := stay hg1 y1
                replace y2 := stay hg1 y2
                replace y3 := stay hg1 y3
                replace y4 := stay hg1 y4
                replace c0 := stay hg1 c0
                go_wp2_with fail
                refine (q2.out _ f2).mono ?_
                rintro e g2 ⟨rfl, hg2⟩
                have f3 := bnext f2 hg2
                replace y0 := stay hg2 y0
                replace y1 := stay hg2 y1
                replace y2 := stay hg2 y2
                replace y3 := stay hg2 y3
                replace y4 := stay hg2 y4
                replace c0 := stay hg2 c0
                go_wp2_with fail
                refine (q3.out _ f3).mono ?_
                rintro e g3 ⟨rfl, hg3⟩
                have f4 := bnext f3 hg3
                replace y0 := stay hg3 y0
                replace y1 := stay hg3 y1
                replace y2 := stay hg3 y2
                replace y3 := stay hg3 y3
                replace y4 := stay hg3 y4
                replace c0 := stay hg3 c0
                go_wp2_with fail
                refine (q4.out _ f4).mono ?_
                rintro e g4 ⟨rfl, hg4⟩
                have f5 := bnext f4 hg4
                clear y0 y1 y2 y3 y4 c0 q1 q2 q3 q4
                go_wp2_with fail
                go_roundw
                case rel => exact ⟨i + 1, by omega, by go_num, f5⟩
                case measure => simp [intOf]; omega
              · have hje2 : i = ak := by omega
                subst hje2
                have y3 := stay hb7 z3.out
                go_wp2_with fail
                clear y3
                go_loopw [139] (fun i wr => ∃ j : Nat, j ≤ qk ∧ i = .int .i64 (j : Int) ∧ Below wi.heap.size wi wr) (fun i _ => qk - (intOf i).toNat)
                case atStart => exact ⟨0, Nat.zero_le _, rfl, hb7⟩
                case round =>
                  obtain ⟨q, hq, rfl, hb8⟩ := hrel
                  have F8 := bnext F0 hb8
                  by_cases hqt : q < qk
                  · have hqQ : q < Q.length := by rw [hQ.out]; exact hqt
                    obtain ⟨x0, x1, x2, x3⟩ := (hatQ.out.below F8).one hqQ
                    have hfi := hid ((qright_is.1 hRQ.out).2.2 q hqQ).1
                    generalize quAt Q q = X at *
                    obtain ⟨X0, X1, X2, X3⟩ := X
                    dsimp only at *
                    have bl1 := below_lit wr (.cells #[.string X0, .int .i64 X1, .int .i64 X2, .int .i64 X3] 59)
                    have f1 := bnext hb8 bl1
                    have F1 := bnext F0 f1
                    have y0 := stay f1 z0.out
                    have y1 := stay f1 z1.out
                    have y2 := stay f1 z2.out
                    have y3 := stay f1 z3.out
                    have y4 := stay f1 z4.out
                    have c0 := lit_cell wr 59 #[.string X0, .int .i64 X1, .int .i64 X2, .int .i64 X3] 0 _ rfl
                    have q1 := hid (fun wx (h : Below wi.heap.size wi wx) => kQ2.out (M1.map (·.1)) a1 k1 c1 X0 q hfi.out wx (bnext F0 h) hm1.out (by omega) (hat1.out.below (bnext F0 h)) hT1.out)
                    have q2 := hid (fun wx (h : Below wi.heap.size wi wx) => kQ2.out (M2.map (·.1)) a2 k2 c2 X0 q hfi.out wx (bnext F0 h) hm2.out (by omega) (hat2.out.below (bnext F0 h)) hT2.out)
                    have q3 := hid (fun wx (h : Below wi.heap.size wi wx) => kQ2.out B va j vc X0 q hfi.out wx (bnext F0 h) hBl.out (by omega) (hJB2.out.below h) hBT.out)
                    rw [(hBt.out (inP X0) (in_re X0)).1, (hBt.out (inP X0) (in_re X0)).2] at q3
                    have t1 := tot_le (p := inP X0) (M1.map (·.1)) hT1.out
                    have t2 := tot_le (p := inP X0) (M2.map (·.1)) hT2.out
                    have t3 := num_le (inP X0) (M1.map (·.1))
                    have t4 := num_le (inP X0) (M2.map (·.1))
                    rw [hm1.out] at t1 t3
                    rw [hm2.out] at t2 t4
                    generalize tot (inP X0) (M1.map (·.1)) = T1 at *
                    generalize tot (inP X0) (M2.map (·.1)) = T2 at *
                    generalize num (inP X0) (M1.map (·.1)) = U1 at *
                    generalize num (inP X0) (M2.map (·.1)) = U2 at *
                    have q3c : ((T1 + T2 : Nat) : Int) = (T1 : Int) + (T2 : Int) := by omega
                    have q4c : ((U1 + U2 : Nat) : Int) = (U1 : Int) + (U2 : Int) := by omega
                    rw [q3c, q4c] at q3
                    replace t1 : T1 ≤ 819200 := by omega
                    replace t2 : T2 ≤ 819200 := by omega
                    replace t3 : U1 ≤ 200 := by omega
                    replace t4 : U2 ≤ 200 := by omega
                    clear q3c q4c
                    go_wp2_with fail
                    refine (q1.out _ f1).mono ?_
                    rintro e g1 ⟨rfl, hg1⟩
                    have f2 := bnext f1 hg1
                    replace y0 := stay hg1 y0
                    replace y1 := stay hg1 y1
                    replace y2 := stay hg1 y2
                    replace y3 := stay hg1 y3
                    replace y4 := stay hg1 y4
                    replace c0 := stay hg1 c0
                    go_wp2_with fail
                    refine (q2.out _ f2).mono ?_
                    rintro e g2 ⟨rfl, hg2⟩
                    have f3 := bnext f2 hg2
                    replace y0 := stay hg2 y0
                    replace y1 := stay hg2 y1
                    replace y2 := stay hg2 y2
                    replace y3 := stay hg2 y3
                    replace y4 := stay hg2 y4
                    replace c0 := stay hg2 c0
                    go_wp2_with fail
                    refine (q3.out _ f3).mono ?_
                    rintro e g3 ⟨rfl, hg3⟩
                    have f4 := bnext f3 hg3
                    clear y0 y1 y2 y3 y4 c0 q1 q2 q3
                    go_wp2_with fail
                    go_roundw
                    case rel => exact ⟨q + 1, by omega, by go_num, f4⟩
                    case measure => simp [intOf]; omega
                  · have hje3 : q = qk := by omega
                    subst hje3
                    have DD := F8
                    go_wp2_with fail
                    refine (awake_any _).mono ?_
                    rintro e wz ⟨rfl, hbz⟩
                    have Dz := bnext DD hbz
                    go_wp2
                    go_ret
                    exact ⟨rfl, Dz⟩

end Go.Proofs.Ytpebhjncdfcmnaa
