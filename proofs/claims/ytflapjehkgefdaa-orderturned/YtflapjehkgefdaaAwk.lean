/- The chapter's examples hold; Big; Pick. -/
import Derived.Test.YtflapjehkgefdaaAw
namespace Go.Proofs.Ytflapjehkgefdaa
open Go.RowKit
set_option linter.unusedVariables false
set_option linter.unusedSimpArgs false

abbrev j1 : Job := aJ 1 tMain tNorm 1
abbrev j2 : Job := aJ 2 tMain tHigh 1
abbrev j3 : Job := aJ 3 tMain tNorm 1
abbrev j4 : Job := aJ 4 tDebug tNorm 1
abbrev j5 : Job := ⟨5, 0, 0, ⟨tNo, tNo, tNo, tNo, 0, 0, 0, none, 0, 0⟩, 2, 0, 0, 0, 0, 0⟩
theorem a_q1 : prQ aZ aM aA aQ 1 j1 = 0 := by kernel_rfl
theorem a_q2 : prQ aZ aM aA aQ 1 j2 = 5 := by kernel_rfl
theorem a_q3 : prQ aZ aM aA aQ 1 j3 = 0 := by kernel_rfl
theorem a_q4 : prQ aZ aM aA aQ 1 j4 = 2002 := by kernel_rfl
theorem a_q : IsQ (prQ aZ aM aA aQ 1) (·.id) pend [j1, j2, j3, j4, j5] [4, 2, 1, 3] := by
  refine ⟨[j4, j2, j1, j3], ?_, ?_, rfl⟩
  · have e : [j1, j2, j3, j4, j5].filter pend = [j1, j2, j3, j4] := rfl
    rw [e]
    exact ((List.Perm.swap _ _ _).trans ((List.Perm.cons _ (List.Perm.swap _ _ _)).trans (List.Perm.swap _ _ _))).trans (List.Perm.cons _ (List.Perm.cons _ (List.Perm.swap _ _ _)))
  · unfold SortedQ
    simp only [List.pairwise_cons, List.mem_cons, List.not_mem_nil, or_false, forall_eq_or_imp, forall_eq, leQ, a_q1, a_q2, a_q3, a_q4, List.Pairwise.nil, and_true]
    refine ⟨⟨?_, ?_, ?_⟩, ⟨?_, ?_⟩, ?_, ?_⟩
    all_goals first | decide | (intro x h; exact h.elim)

theorem a_q_len {q : List Int} (h : IsQ (prQ aZ aM aA aQ 1) (·.id) pend [j1, j2, j3, j4, j5] q) : q = [4, 2, 1, 3] := IsQ.uniq _ _ a_q h

set_option maxRecDepth 100000 in
set_option maxHeartbeats 2000000 in
theorem awake_any (w : World) : Calls Try.prog 6 #[] w fun e w' => e = .returned (.bool true) ∧ Below w.heap.size w w' := by
  obtain ⟨i0, hi, hz0, hz1, hz2⟩ := info_parts info53
  go_enter Try.func6, Try.ntmps6
  go_wp2_with fail
  refine (ex_any w).mono ?_
  rintro e w1 ⟨ca, pa, aa, qa, rfl, hC, B⟩
  have k1 := prio_any ca pa aa qa 2 2 2 2 1 1 2 2 1 aZ aM aA aQ (aS tDebug tHigh) w1 hC
  have k1' : Calls Try.prog 13 #[.agg #[.slice ca 2 2, .slice pa 2 2, .slice aa 1 1, .slice qa 2 2, .int .u8 1], .agg #[.string tNo, .string tNo, .string tHigh, .string tDebug, .int .i64 0, .int .i64 0, .int .i64 0, .slice none 0 0]] w1 (PrioT (2007, 0) w1) := by rw [← a_p1]; exact k1
  clear k1 hC
  go_wp2_with fail
  refine k1'.mono ?_
  clear k1'
  rintro e w2 ⟨rfl, hb⟩
  replace B := bnext B hb
  clear hb
  go_wp2_with fail
  refine (ex_any w2).mono ?_
  rintro e w3 ⟨ca2, pa2, aa2, qa2, rfl, hC, hb⟩
  replace B := bnext B hb
  have k1 := prio_any ca2 pa2 aa2 qa2 2 2 2 2 1 1 2 2 1 aZ aM aA aQ (aS tX tHigh) w3 hC
  have k1' : Calls Try.prog 13 #[.agg #[.slice ca2 2 2, .slice pa2 2 2, .slice aa2 1 1, .slice qa2 2 2, .int .u8 1], .agg #[.string tNo, .string tNo, .string tHigh, .string tX, .int .i64 0, .int .i64 0, .int .i64 0, .slice none 0 0]] w3 (PrioT (0, 141) w3) := by rw [← a_p2]; exact k1
  clear k1 hC hb
  go_wp2_with fail
  refine k1'.mono ?_
  clear k1'
  rintro e w4 ⟨rfl, hb⟩
  replace B := bnext B hb
  clear hb
  have k1 := prio_any none none none none 0 0 0 0 0 0 0 0 0 [] [] [] [] (aS tNo tNo) w4 (cfr_nil _)
  have k1' : Calls Try.prog 13 #[.agg #[.slice none 0 0, .slice none 0 0, .slice none 0 0, .slice none 0 0, .int .u8 0], .agg #[.string tNo, .string tNo, .string tNo, .string tNo, .int .i64 0, .int .i64 0, .int .i64 0, .slice none 0 0]] w4 (PrioT (0, 250) w4) := by rw [← a_p3]; exact k1
  clear k1
  go_wp2_with fail
  refine k1'.mono ?_
  clear k1'
  rintro e w5 ⟨rfl, hb⟩
  replace B := bnext B hb
  clear hb
  go_wp2_with fail
  refine (ex_any w5).mono ?_
  rintro e w6 ⟨ca3, pa3, aa3, qa3, rfl, hC, hb⟩
  replace B := bnext B hb
  replace hC := hid hC
  clear hb
  go_wp2_with fail
  refine (aj_any _ _ _ _).mono ?_
  rintro e w7 ⟨rfl, hb⟩
  replace B := bnext B hb
  replace hC := hid (hC.out.below hb)
  clear hb
  go_wp2_with fail
  refine (aj_any _ _ _ _).mono ?_
  rintro e w8 ⟨rfl, hb⟩
  replace B := bnext B hb
  replace hC := hid (hC.out.below hb)
  clear hb
  go_wp2_with fail
  refine (aj_any _ _ _ _).mono ?_
  rintro e w9 ⟨rfl, hb⟩
  replace B := bnext B hb
  replace hC := hid (hC.out.below hb)
  clear hb
  go_wp2_with fail
  refine (aj_any _ _ _ _).mono ?_
  rintro e w10 ⟨rfl, hb⟩
  replace B := bnext B hb
  replace hC := hid (hC.out.below hb)
  clear hb
  have bl := below_lit w10 (.cells ([j1, j2, j3, j4, j5].flatMap jc).toArray 40)
  have hat : JAt (w10.alloc (.cells ([j1, j2, j3, j4, j5].flatMap jc).toArray 40)) (some ⟨w10.heap.size, 0, none⟩) [j1, j2, j3, j4, j5] := cat_lit w10 40 _ _ (by simp)
  have kQ := queue_any ca3 pa3 aa3 qa3 2 2 2 2 1 1 2 2 1 aZ aM aA aQ (some ⟨w10.heap.size, 0, none⟩) 5 5 [j1, j2, j3, j4, j5] (w10.alloc (.cells ([j1, j2, j3, j4, j5].flatMap jc).toArray 40)) (hC.out.below bl) rfl (by omega) hat
  have B10 := bnext B bl
  clear bl hat
  go_wp2_with (refine wpList_five rfl 29 40 _ _ _ _ _ rfl j1 j2 j3 j4 j5 i0 _ Try.underlying29 hi hz0 hz1 rfl rfl rfl rfl rfl ?_)
  refine kQ.mono ?_
  clear kQ
  rintro e w11 ⟨ra, rc, q, rfl, hq, hqa, hqc, hb⟩
  have hq4 := a_q_len hq
  subst hq4
  replace B := bnext B10 hb
  clear hb hq B10 hqc
  have bl := below_lit w11 (.cells #[.int .i64 4, .int .i64 2, .int .i64 1, .int .i64 3] 3)
  have kS := sameints ra (some ⟨w11.heap.size, 0, none⟩) 4 rc 4 [4, 2, 1, 3] (w11.alloc (.cells #[.int .i64 4, .int .i64 2, .int .i64 1, .int .i64 3] 3)) rfl (by omega) (hqa.below bl) (cat_lit w11 3 _ _ rfl)
  replace B := bnext B bl
  have hlen : ([4, 2, 1, 3] : List Int).length = 4 := rfl
  clear bl hqa
  go_wp2_with fail
  refine kS.mono ?_
  clear kS
  rintro e w12 ⟨rfl, hb⟩
  replace B := bnext B hb
  clear hb
  go_wp2
  go_ret
  exact ⟨rfl, B⟩
end Go.Proofs.Ytflapjehkgefdaa
