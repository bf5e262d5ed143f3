/- The document's piece. -/
import Derived.Test.YtomdghodbkhkaaaGreatDoorRct2
namespace Go.Proofs.YtomdghodbkhkaaaGreatDoor
open Go.RowKit
set_option linter.unusedVariables false
set_option linter.unusedSimpArgs false

/-- What piece answers: from, to, step, and whether it is one. -/
def pieceV (l : List UInt8) : Int × Int × Int × Bool :=
  let P := pcs 45 l
  let a := nbV (P.getD 0 [])
  if P.length = 1 then (a, a, 1, decide (0 ≤ a)) else if 2 < P.length then (0, 0, 0, false) else
  let M := pcs 58 (P.getD 1 [])
  let b := nbV (M.getD 0 [])
  let st := if M.length = 2 then nbV (M.getD 1 []) else 1
  (a, b, st, decide (M.length ≤ 2) && decide (0 ≤ a) && decide (a ≤ b) && decide (1 ≤ st))
theorem text_at {w : World} {base n cc i : Nat} {T : List (List UInt8)} {g : Nat} (h : SOwn w base (.slice (some ⟨g, 0, none⟩) n cc) T) (hi : i < T.length) : w.cell? ⟨g, i, none⟩ = some (Str (T.getD i [])) := by
  unfold SOwn at h
  refine row_at (n := n) (cc := cc) (base := base) (xs := T.map Str) ?_ ?_
  · have hn : n = T.length := by
      obtain ⟨_, _, e, _⟩ := owns_form h
      simp only [Value.slice.injEq] at e
      exact e.2.1
    rw [← hn] at h; exact h
  · rw [List.getElem?_map, List.getElem?_eq_getElem hi]
    simp [List.getD_eq_getElem?_getD, List.getElem?_eq_getElem hi]
theorem results_tmp4 {fn : Func} {t u v x : Tmp} (h : fn.results = #[.tmp t, .tmp u, .tmp v, .tmp x]) (tmps : Array Value) (P : Program) (w : World) :
    (results fn tmps).run P w = .ok (.tuple #[tmps.getD t undef, tmps.getD u undef, tmps.getD v undef, tmps.getD x undef]) w := by
  simp [results, h]
theorem nbV_ge (l : List UInt8) : -1 ≤ nbV l := by unfold nbV; split <;> omega

set_option maxRecDepth 100000 in
set_option maxHeartbeats 2000000 in
theorem piece_any (l : List UInt8) (hl : l.length ≤ 400) (w : World) :
    Calls Tryz.prog 21 #[Str l] w fun e w' => e = .returned (.tuple #[.int .i64 (pieceV l).1, .int .i64 (pieceV l).2.1, .int .i64 (pieceV l).2.2.1, .bool (pieceV l).2.2.2]) ∧ Below w.heap.size w w' := by
  have k1 := cutd_any 45 l hl w
  obtain ⟨hP1, hP2⟩ := pcs_small 45 l
  have hP0 := pcs_ne 45 l
  obtain ⟨P, hP⟩ : ∃ P, P = pcs 45 l := ⟨_, rfl⟩
  have hV : pieceV l = if P.length = 1 then (nbV (P.getD 0 []), nbV (P.getD 0 []), 1, decide (0 ≤ nbV (P.getD 0 []))) else if 2 < P.length then (0, 0, 0, false) else (nbV (P.getD 0 []), nbV ((pcs 58 (P.getD 1 [])).getD 0 []), (if (pcs 58 (P.getD 1 [])).length = 2 then nbV ((pcs 58 (P.getD 1 [])).getD 1 []) else 1), decide ((pcs 58 (P.getD 1 [])).length ≤ 2) && decide (0 ≤ nbV (P.getD 0 [])) && decide (nbV (P.getD 0 []) ≤ nbV ((pcs 58 (P.getD 1 [])).getD 0 [])) && decide (1 ≤ (if (pcs 58 (P.getD 1 [])).length = 2 then nbV ((pcs 58 (P.getD 1 [])).getD 1 []) else 1))) := by rw [hP]; rfl
  rw [← hP] at k1 hP1 hP2 hP0
  have hpos : 0 < P.length := List.length_pos_iff.2 hP0
  have hget : ∀ i, i < P.length → (P.getD i []).length ≤ 400 := fun i hi => by
    have e : P.getD i [] = P[i] := by simp [List.getD_eq_getElem?_getD, List.getElem?_eq_getElem hi]
    rw [e]; have := hP2 _ (List.getElem_mem hi); omega
  replace hP := hid hP
  replace hV := hid hV
  go_enter Tryz.func21, Tryz.ntmps21
  go_wp2_with fail
  refine k1.mono ?_
  rintro e w1 ⟨a, cc, rfl, ho, hb1⟩
  have ho' := ho
  unfold SOwn at ho'
  obtain ⟨g, c2, e1, _, _, _, _⟩ := owns_spot ho' hpos
  simp only [Value.slice.injEq] at e1
  obtain ⟨rfl, _, _⟩ := e1
  have x0 := text_at ho hpos
  have h0 := hget 0 hpos
  have kN := number_any (P.getD 0 []) (by omega) w1
  have hA := nbV_ge (P.getD 0 [])
  generalize hZ0 : P.getD 0 [] = Z0 at *
  generalize nbV Z0 = A at *
  replace hZ0 := hid hZ0
  replace ho := hid ho
  replace ho' := hid ho'
  go_wp2_with fail
  refine kN.mono ?_
  rintro e w2 ⟨rfl, hb2⟩
  have B2 := bnext hb1 hb2
  by_cases hn1 : P.length = 1
  · have d1 : ((P.length : Int) == 1) = true := by rw [hn1]; rfl
    have hv := hV.out
    rw [if_pos hn1] at hv
    replace hv := hid hv
    replace hn1 := hid hn1
    clear hP1 hP2 hget
    go_wp2
    (try simp only [Exit.inBlock, Exit.then]); refine bodyPost_ret (results_tmp4 rfl _ _ _) rfl ?_
    exact ⟨by rw [hv.out] <;> rfl, B2⟩
  · by_cases hn2 : 2 < P.length
    · have d1 : ((P.length : Int) == 1) = false := by simp; omega
      have d2 : decide ((2 : Int) < (P.length : Int)) = true := decide_eq_true (by omega)
      have hv := hV.out
      rw [if_neg hn1, if_pos hn2] at hv
      replace hv := hid hv
      replace hn1 := hid hn1
      clear hP1 hP2 hget
      go_wp2
      (try simp only [Exit.inBlock, Exit.then]); refine bodyPost_ret (results_tmp4 rfl _ _ _) rfl ?_
      exact ⟨by rw [hv.out] <;> rfl, B2⟩
    · have hn3 : P.length = 2 := by omega
      have hv := hV.out
      rw [if_neg hn1, if_neg hn2] at hv
      have h1 := hget 1 (by omega)
      have x1 := stay hb2 (text_at ho.out (i := 1) (by omega))
      have k2 := cutd_any 58 (P.getD 1 []) h1 w2
      obtain ⟨hM1, hM2⟩ := pcs_small 58 (P.getD 1 [])
      have hM0 := pcs_ne 58 (P.getD 1 [])
      generalize pcs 58 (P.getD 1 []) = M at *
      generalize P.getD 1 [] = Z1 at *
      have hpos2 : 0 < M.length := List.length_pos_iff.2 hM0
      have hget2 : ∀ i, i < M.length → (M.getD i []).length ≤ 400 := fun i hi => by
        have e : M.getD i [] = M[i] := by simp [List.getD_eq_getElem?_getD, List.getElem?_eq_getElem hi]
        rw [e]; have := hM2 _ (List.getElem_mem hi); omega
      rw [hn3]
      have d1 : (((2 : Nat) : Int) == 1) = false := rfl
      replace hv := hid hv
      replace hV := hid hV
      replace hn1 := hid hn1
      replace hn2 := hid hn2
      go_wp2_with fail
      refine k2.mono ?_
      rintro e w3 ⟨a3, c3, rfl, ho3, hb3⟩
      have B3 := bnext B2 hb3
      have ho3' := ho3
      unfold SOwn at ho3'
      obtain ⟨g3, c4, e3, _, _, _, _⟩ := owns_spot ho3' hpos2
      simp only [Value.slice.injEq] at e3
      obtain ⟨rfl, _, _⟩ := e3
      have y0 := text_at ho3 hpos2
      have kN2 := number_any (M.getD 0 []) (by have := hget2 0 hpos2; omega) w3
      have hA2 := nbV_ge (M.getD 0 [])
      generalize nbV (M.getD 0 []) = Bv at *
      generalize M.getD 0 [] = Y0 at *
      replace ho3 := hid ho3
      replace ho3' := hid ho3'
      go_wp2_with fail
      refine kN2.mono ?_
      rintro e w4 ⟨rfl, hb4⟩
      have B4 := bnext B3 hb4
      have f0 : decide (M.length ≤ 2) = decide ((M.length : Int) ≤ 2) := by rw [Bool.eq_iff_iff]; simp only [decide_eq_true_eq]; omega
      have hv := hv.out
      rw [f0] at hv
      by_cases hm2 : M.length = 2
      · rw [if_pos hm2] at hv
        have z1 := stay hb4 (text_at ho3.out (i := 1) (by omega))
        have k5 := number_any (M.getD 1 []) (by have := hget2 1 (by omega); omega) w4
        generalize nbV (M.getD 1 []) = St at *
        generalize M.getD 1 [] = Y1 at *
        have q1 : ((M.length : Int) == 2) = true := by rw [hm2]; rfl
        have m1 : (1 : Int) < (M.length : Int) := by omega
        replace hm2 := hid hm2
        replace hv := hid hv
        clear hP1 hP2 hget hM1 hM2 hget2 kN kN2 k1 k2
        go_wp2_with fail
        refine k5.mono ?_
        rintro e w5 ⟨rfl, hb5⟩
        have B5 := bnext B4 hb5
        clear z1 k5
        cases f1 : decide ((M.length : Int) ≤ 2)
        · go_wp2
          (try simp only [Exit.inBlock, Exit.then]); refine bodyPost_ret (results_tmp4 rfl _ _ _) rfl ?_
          exact ⟨by rw [hv.out]; simp_all <;> omega, B5⟩
        · cases f2 : decide ((0 : Int) ≤ A)
          · go_wp2
            (try simp only [Exit.inBlock, Exit.then]); refine bodyPost_ret (results_tmp4 rfl _ _ _) rfl ?_
            exact ⟨by rw [hv.out]; simp_all <;> omega, B5⟩
          · cases f3 : decide (A ≤ Bv)
            · go_wp2
              (try simp only [Exit.inBlock, Exit.then]); refine bodyPost_ret (results_tmp4 rfl _ _ _) rfl ?_
              exact ⟨by rw [hv.out]; simp_all <;> omega, B5⟩
            · cases f4 : decide ((1 : Int) ≤ St)
              · go_wp2
                (try simp only [Exit.inBlock, Exit.then]); refine bodyPost_ret (results_tmp4 rfl _ _ _) rfl ?_
                exact ⟨by rw [hv.out]; simp_all <;> omega, B5⟩
              · go_wp2
                (try simp only [Exit.inBlock, Exit.then]); refine bodyPost_ret (results_tmp4 rfl _ _ _) rfl ?_
                exact ⟨by rw [hv.out]; simp_all <;> omega, B5⟩
      · rw [if_neg hm2] at hv
        have q1 : ((M.length : Int) == 2) = false := by simp; omega
        replace hm2 := hid hm2
        replace hv := hid hv
        clear hP1 hP2 hget hM1 hM2 hget2 kN kN2 k1 k2
        cases f1 : decide ((M.length : Int) ≤ 2)
        · go_wp2
          (try simp only [Exit.inBlock, Exit.then]); refine bodyPost_ret (results_tmp4 rfl _ _ _) rfl ?_
          exact ⟨by rw [hv.out]; simp_all <;> omega, B4⟩
        · cases f2 : decide ((0 : Int) ≤ A)
          · go_wp2
            (try simp only [Exit.inBlock, Exit.then]); refine bodyPost_ret (results_tmp4 rfl _ _ _) rfl ?_
            exact ⟨by rw [hv.out]; simp_all <;> omega, B4⟩
          · cases f3 : decide (A ≤ Bv)
            · go_wp2
              (try simp only [Exit.inBlock, Exit.then]); refine bodyPost_ret (results_tmp4 rfl _ _ _) rfl ?_
              exact ⟨by rw [hv.out]; simp_all <;> omega, B4⟩
            · cases f4 : decide ((1 : Int) ≤ (1 : Int))
              · go_wp2
                (try simp only [Exit.inBlock, Exit.then]); refine bodyPost_ret (results_tmp4 rfl _ _ _) rfl ?_
                exact ⟨by rw [hv.out]; simp_all <;> omega, B4⟩
              · go_wp2
                (try simp only [Exit.inBlock, Exit.then]); refine bodyPost_ret (results_tmp4 rfl _ _ _) rfl ?_
                exact ⟨by rw [hv.out]; simp_all <;> omega, B4⟩
end Go.Proofs.YtomdghodbkhkaaaGreatDoor
