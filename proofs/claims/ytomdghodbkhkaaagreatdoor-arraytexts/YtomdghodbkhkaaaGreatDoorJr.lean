/- job's Right, and what it calls. -/
import Derived.Test.YtomdghodbkhkaaaGreatDoorJa
namespace Go.Proofs.YtomdghodbkhkaaaGreatDoor
open Go.RowKit
set_option linter.unusedVariables false
set_option linter.unusedSimpArgs false

theorem bneD (x y : Int) : (x != y) = decide (x ≠ y) := by by_cases h : x = y <;> simp [h]
theorem beqD (x y : Int) : (x == y) = decide (x = y) := by by_cases h : x = y <;> simp [h]

set_option maxRecDepth 100000 in
set_option maxHeartbeats 1000000 in
theorem hasn_any (j : Job) (w : World) (h0 : 0 ≤ j.on) (h1 : j.on < 4294967296) : Calls Tryz.prog 88 #[.agg (jc j).toArray] w fun e w' => e = .returned (.bool (hasN j.on j.s.nodes)) ∧ Below w.heap.size w w' := by
  obtain ⟨id, arr, idx, ⟨s0, s1, s2, s3, nn, co, lm, da, dn, dc⟩, st, sub, beg, fin, on, exit⟩ := j
  simp only [jc, hasN] at *
  obtain ⟨z, rfl⟩ : ∃ z : Nat, on = (z : Int) := ⟨on.toNat, by omega⟩
  have hz : z < 4294967296 := by omega
  rw [Int.toNat_natCast]
  have kC := fun w => Nd.count_q z hz w
  generalize Nd.cnt z = C at *
  go_enter Tryz.func88, Tryz.ntmps88
  go_wp2_with fail
  go_quiet (first | (go_at_call 100; exact Calls.quiet_of (kC _)))
  go_wp2
  go_ret
  exact ⟨ret_bool (by rw [Bool.eq_iff_iff]; simp only [beq_iff_eq, decide_eq_true_eq]), below_drewN (below_lit _ _) _⟩

set_option maxRecDepth 100000 in
set_option maxHeartbeats 4000000 in
theorem fits_any (j : Job) (w : World) (h0 : 0 ≤ j.on) (h1 : j.on < 4294967296) : Calls Tryz.prog 72 #[.agg (jc j).toArray] w fun e w' => e = .returned (.bool (fitB j)) ∧ Below w.heap.size w w' := by
  have kH := fun w => hasn_any j w h0 h1
  have kO := fun w => over_any j.st w
  have u0 := hid (heap_alloc_new w (.cells (jc j).toArray 46))
  have bl := below_lit w (.cells (jc j).toArray 46)
  have v7 := lit_cell w 46 (jc j).toArray 7 (.int .i64 j.s.nodes) rfl
  have v11 := lit_cell w 46 (jc j).toArray 11 (.int .u8 j.st) rfl
  have v12 := lit_cell w 46 (jc j).toArray 12 (.int .i64 j.sub) rfl
  have v13 := lit_cell w 46 (jc j).toArray 13 (.int .i64 j.beg) rfl
  have v14 := lit_cell w 46 (jc j).toArray 14 (.int .i64 j.fin) rfl
  have v15 := lit_cell w 46 (jc j).toArray 15 (.int .u32 j.on) rfl
  have v16 := lit_cell w 46 (jc j).toArray 16 (.int .i64 j.exit) rfl
  have hlt := World.block_lt_of_cell? _ _ v11
  by_cases e1 : j.st = 1
  · have hq := hid (show fitB j = (decide (j.beg = 0) && decide (j.fin = 0) && decide (j.on = 0) && decide (j.exit = 0)) by unfold fitB; rw [if_pos e1])
    generalize fitB j = R at *
    rw [e1] at v11
    replace e1 := hid e1
    go_enter Tryz.func72, Tryz.ntmps72
    go_wp2
    all_goals
      (try simp only [beq_iff_eq, beq_eq_false_iff_ne, bne_iff_ne, bne_eq_false_iff_eq] at *)
      go_ret
      exact ⟨ret_bool (by rw [hq.out]; first | rfl | (rw [Bool.eq_iff_iff]; simp only [Bool.and_eq_true, decide_eq_true_eq, beq_iff_eq, true_iff, iff_true, eq_self, Bool.false_eq_true, false_iff, iff_false, true_and, and_true, false_and, and_false, not_false_eq_true, not_true_eq_false, Bool.true_and, Bool.and_true, Bool.false_and, Bool.and_false]; first | done | omega) | (by_cases hx : j.exit = 0 <;> by_cases hs : j.st = 4 <;> simp [bneD, beqD, hx, hs])), bl⟩
  by_cases e2 : j.st = 2
  · have hq := hid (show fitB j = (hasN j.on j.s.nodes && ord3 j.sub j.beg MT && decide (j.fin = 0) && decide (j.exit = 0)) by unfold fitB; rw [if_neg e1, if_pos e2])
    generalize fitB j = R at *
    generalize hasN j.on j.s.nodes = H at *
    rw [e2] at v11
    replace e2 := hid e2
    replace e1 := hid e1
    go_enter Tryz.func72, Tryz.ntmps72
    go_wp2_with (refine wpList_load_row rfl 46 (.tmp 1) rfl w.heap.size rfl 46 (jc j).toArray (0, 0) _ u0.out Tryz.underlying46 rfl (by kernel_rfl) ?_)
    refine (kH _).mono ?_
    rintro e w1 ⟨rfl, hb1⟩
    have D1 := bnext bl hb1
    replace v11 := stay hb1 v11
    replace v12 := stay hb1 v12
    replace v13 := stay hb1 v13
    replace v14 := stay hb1 v14
    replace v16 := stay hb1 v16
    replace hlt := World.block_lt_of_cell? _ _ v11
    cases H with
    | false =>
      go_wp2
      all_goals
        (try simp only [beq_iff_eq, beq_eq_false_iff_ne, bne_iff_ne, bne_eq_false_iff_eq] at *)
        go_ret
        exact ⟨ret_bool (by rw [hq.out]; first | rfl | (rw [Bool.eq_iff_iff]; simp only [Bool.and_eq_true, decide_eq_true_eq, beq_iff_eq, true_iff, iff_true, eq_self, Bool.false_eq_true, false_iff, iff_false, true_and, and_true, false_and, and_false, not_false_eq_true, not_true_eq_false, Bool.true_and, Bool.and_true, Bool.false_and, Bool.and_false]; first | done | omega) | (by_cases hx : j.exit = 0 <;> by_cases hs : j.st = 4 <;> simp [bneD, beqD, hx, hs])), D1⟩
    | true =>
      have bo := below_lit w1 (.cells #[.int .i64 j.sub, .int .i64 j.beg, .int .i64 1099511627776] 2)
      have kT := order3 j.sub j.beg MT _ w1.heap.size (cat_lit w1 2 [.int .i64 j.sub, .int .i64 j.beg, .int .i64 1099511627776] #[.int .i64 j.sub, .int .i64 j.beg, .int .i64 1099511627776] rfl)
      generalize ord3 j.sub j.beg MT = T at *
      go_wp2_with fail
      refine kT.mono ?_
      rintro e w2 ⟨rfl, hb2⟩
      have D2 := bnext (bnext D1 bo) hb2
      replace v11 := stay (bnext bo hb2) v11
      replace v12 := stay (bnext bo hb2) v12
      replace v13 := stay (bnext bo hb2) v13
      replace v14 := stay (bnext bo hb2) v14
      replace v16 := stay (bnext bo hb2) v16
      clear hlt
      have hlt := World.block_lt_of_cell? _ _ v11
      cases T with
      | false =>
        go_wp2
        all_goals
          (try simp only [beq_iff_eq, beq_eq_false_iff_ne, bne_iff_ne, bne_eq_false_iff_eq] at *)
          go_ret
          exact ⟨ret_bool (by rw [hq.out]; first | rfl | (rw [Bool.eq_iff_iff]; simp only [Bool.and_eq_true, decide_eq_true_eq, beq_iff_eq, true_iff, iff_true, eq_self, Bool.false_eq_true, false_iff, iff_false, true_and, and_true, false_and, and_false, not_false_eq_true, not_true_eq_false, Bool.true_and, Bool.and_true, Bool.false_and, Bool.and_false]; first | done | omega) | (by_cases hx : j.exit = 0 <;> by_cases hs : j.st = 4 <;> simp [bneD, beqD, hx, hs])), D2⟩
      | true =>
        go_wp2
        all_goals
          (try simp only [beq_iff_eq, beq_eq_false_iff_ne, bne_iff_ne, bne_eq_false_iff_eq] at *)
          go_ret
          exact ⟨ret_bool (by rw [hq.out]; first | rfl | (rw [Bool.eq_iff_iff]; simp only [Bool.and_eq_true, decide_eq_true_eq, beq_iff_eq, true_iff, iff_true, eq_self, Bool.false_eq_true, false_iff, iff_false, true_and, and_true, false_and, and_false, not_false_eq_true, not_true_eq_false, Bool.true_and, Bool.and_true, Bool.false_and, Bool.and_false]; first | done | omega) | (by_cases hx : j.exit = 0 <;> by_cases hs : j.st = 4 <;> simp [bneD, beqD, hx, hs])), D2⟩
  by_cases e8 : j.st = 8
  · have hq := hid (show fitB j = (decide (j.on = 0) && ord3 j.sub j.fin MT && decide (j.beg = 0) && decide (j.exit = 0)) by unfold fitB; rw [if_neg e1, if_neg e2, if_pos (.inl e8)])
    generalize fitB j = R at *
    rw [e8] at v11
    replace e8 := hid e8
    replace e2 := hid e2
    replace e1 := hid e1
    by_cases e0 : j.on = 0
    · rw [e0] at v15 hq
      go_enter Tryz.func72, Tryz.ntmps72
      have bo := below_lit (w.alloc (.cells (jc j).toArray 46)) (.cells #[.int .i64 j.sub, .int .i64 j.fin, .int .i64 1099511627776] 2)
      have kT := order3 j.sub j.fin MT _ (w.alloc (.cells (jc j).toArray 46)).heap.size (cat_lit (w.alloc (.cells (jc j).toArray 46)) 2 [.int .i64 j.sub, .int .i64 j.fin, .int .i64 1099511627776] #[.int .i64 j.sub, .int .i64 j.fin, .int .i64 1099511627776] rfl)
      rw [size_lit] at kT
      generalize ord3 j.sub j.fin MT = T at *
      go_wp2_with fail
      refine kT.mono ?_
      rintro e w2 ⟨rfl, hb2⟩
      have D2 := bnext (bnext bl bo) hb2
      replace v11 := stay (bnext bo hb2) v11
      replace v12 := stay (bnext bo hb2) v12
      replace v13 := stay (bnext bo hb2) v13
      replace v14 := stay (bnext bo hb2) v14
      replace v16 := stay (bnext bo hb2) v16
      clear hlt
      have hlt := World.block_lt_of_cell? _ _ v11
      cases T with
      | false =>
        go_wp2
        all_goals
          (try simp only [beq_iff_eq, beq_eq_false_iff_ne, bne_iff_ne, bne_eq_false_iff_eq] at *)
          go_ret
          exact ⟨ret_bool (by rw [hq.out]; first | rfl | (rw [Bool.eq_iff_iff]; simp only [Bool.and_eq_true, decide_eq_true_eq, beq_iff_eq, true_iff, iff_true, eq_self, Bool.false_eq_true, false_iff, iff_false, true_and, and_true, false_and, and_false, not_false_eq_true, not_true_eq_false, Bool.true_and, Bool.and_true, Bool.false_and, Bool.and_false]; first | done | omega) | (by_cases hx : j.exit = 0 <;> by_cases hs : j.st = 4 <;> simp [bneD, beqD, hx, hs])), D2⟩
      | true =>
        go_wp2
        all_goals
          (try simp only [beq_iff_eq, beq_eq_false_iff_ne, bne_iff_ne, bne_eq_false_iff_eq] at *)
          go_ret
          exact ⟨ret_bool (by rw [hq.out]; first | rfl | (rw [Bool.eq_iff_iff]; simp only [Bool.and_eq_true, decide_eq_true_eq, beq_iff_eq, true_iff, iff_true, eq_self, Bool.false_eq_true, false_iff, iff_false, true_and, and_true, false_and, and_false, not_false_eq_true, not_true_eq_false, Bool.true_and, Bool.and_true, Bool.false_and, Bool.and_false]; first | done | omega) | (by_cases hx : j.exit = 0 <;> by_cases hs : j.st = 4 <;> simp [bneD, beqD, hx, hs])), D2⟩
    · have d0 : (j.on == 0) = false := by simpa using e0
      go_enter Tryz.func72, Tryz.ntmps72
      go_wp2
      all_goals
        (try simp only [beq_iff_eq, beq_eq_false_iff_ne, bne_iff_ne, bne_eq_false_iff_eq] at *)
        go_ret
        exact ⟨ret_bool (by rw [hq.out]; first | rfl | (rw [Bool.eq_iff_iff]; simp only [Bool.and_eq_true, decide_eq_true_eq, beq_iff_eq, true_iff, iff_true, eq_self, Bool.false_eq_true, false_iff, iff_false, true_and, and_true, false_and, and_false, not_false_eq_true, not_true_eq_false, Bool.true_and, Bool.and_true, Bool.false_and, Bool.and_false]; first | done | omega) | (by_cases hx : j.exit = 0 <;> by_cases hs : j.st = 4 <;> simp [bneD, beqD, hx, hs])), bl⟩
  by_cases e6 : j.st = 6
  · by_cases e0 : j.on = 0
    · have hq := hid (show fitB j = (decide (j.on = 0) && ord3 j.sub j.fin MT && decide (j.beg = 0) && decide (j.exit = 0)) by unfold fitB; rw [if_neg e1, if_neg e2, if_pos (.inr ⟨e6, e0⟩)])
      generalize fitB j = R at *
      rw [e6] at v11
      rw [e0] at v15 hq
      replace e6 := hid e6
      replace e8 := hid e8
      replace e2 := hid e2
      replace e1 := hid e1
      go_enter Tryz.func72, Tryz.ntmps72
      have bo := below_lit (w.alloc (.cells (jc j).toArray 46)) (.cells #[.int .i64 j.sub, .int .i64 j.fin, .int .i64 1099511627776] 2)
      have kT := order3 j.sub j.fin MT _ (w.alloc (.cells (jc j).toArray 46)).heap.size (cat_lit (w.alloc (.cells (jc j).toArray 46)) 2 [.int .i64 j.sub, .int .i64 j.fin, .int .i64 1099511627776] #[.int .i64 j.sub, .int .i64 j.fin, .int .i64 1099511627776] rfl)
      rw [size_lit] at kT
      generalize ord3 j.sub j.fin MT = T at *
      go_wp2_with fail
      refine kT.mono ?_
      rintro e w2 ⟨rfl, hb2⟩
      have D2 := bnext (bnext bl bo) hb2
      replace v11 := stay (bnext bo hb2) v11
      replace v12 := stay (bnext bo hb2) v12
      replace v13 := stay (bnext bo hb2) v13
      replace v14 := stay (bnext bo hb2) v14
      replace v16 := stay (bnext bo hb2) v16
      clear hlt
      have hlt := World.block_lt_of_cell? _ _ v11
      cases T with
      | false =>
        go_wp2
        all_goals
          (try simp only [beq_iff_eq, beq_eq_false_iff_ne, bne_iff_ne, bne_eq_false_iff_eq] at *)
          go_ret
          exact ⟨ret_bool (by rw [hq.out]; first | rfl | (rw [Bool.eq_iff_iff]; simp only [Bool.and_eq_true, decide_eq_true_eq, beq_iff_eq, true_iff, iff_true, eq_self, Bool.false_eq_true, false_iff, iff_false, true_and, and_true, false_and, and_false, not_false_eq_true, not_true_eq_false, Bool.true_and, Bool.and_true, Bool.false_and, Bool.and_false]; first | done | omega) | (by_cases hx : j.exit = 0 <;> by_cases hs : j.st = 4 <;> simp [bneD, beqD, hx, hs])), D2⟩
      | true =>
        go_wp2
        all_goals
          (try simp only [beq_iff_eq, beq_eq_false_iff_ne, bne_iff_ne, bne_eq_false_iff_eq] at *)
          go_ret
          exact ⟨ret_bool (by rw [hq.out]; first | rfl | (rw [Bool.eq_iff_iff]; simp only [Bool.and_eq_true, decide_eq_true_eq, beq_iff_eq, true_iff, iff_true, eq_self, Bool.false_eq_true, false_iff, iff_false, true_and, and_true, false_and, and_false, not_false_eq_true, not_true_eq_false, Bool.true_and, Bool.and_true, Bool.false_and, Bool.and_false]; first | done | omega) | (by_cases hx : j.exit = 0 <;> by_cases hs : j.st = 4 <;> simp [bneD, beqD, hx, hs])), D2⟩
    · have hq := hid (show fitB j = (hasN j.on j.s.nodes && ord4 j.sub j.beg j.fin MT && (decide (j.exit ≠ 0) == decide (j.st = 4))) by unfold fitB; rw [if_neg e1, if_neg e2, if_neg (fun h => h.elim e8 (fun h => e0 h.2)), if_pos (by rw [e6]; rfl)])
      have d0 : (j.on == 0) = false := by simpa using e0
      have kO := fun w => over_any 6 w
      rw [show overB 6 = true from rfl] at kO
      generalize fitB j = R at *
      generalize hasN j.on j.s.nodes = H at *
      rw [e6] at v11 hq
      replace e6 := hid e6
      replace e8 := hid e8
      replace e2 := hid e2
      replace e1 := hid e1
      go_enter Tryz.func72, Tryz.ntmps72
      go_wp2_with fail
      refine (kO _).mono ?_
      rintro e wx ⟨rfl, rfl⟩
      go_wp2_with (refine wpList_load_row rfl 46 (.tmp 1) rfl w.heap.size rfl 46 (jc j).toArray (0, 0) _ u0.out Tryz.underlying46 rfl (by kernel_rfl) ?_)
      refine (kH _).mono ?_
      rintro e w1 ⟨rfl, hb1⟩
      have D1 := bnext bl hb1
      replace v11 := stay hb1 v11
      replace v12 := stay hb1 v12
      replace v13 := stay hb1 v13
      replace v14 := stay hb1 v14
      replace v16 := stay hb1 v16
      replace hlt := World.block_lt_of_cell? _ _ v11
      cases H with
      | false =>
        go_wp2
        all_goals
          (try simp only [beq_iff_eq, beq_eq_false_iff_ne, bne_iff_ne, bne_eq_false_iff_eq] at *)
          go_ret
          exact ⟨ret_bool (by rw [hq.out]; first | rfl | (rw [Bool.eq_iff_iff]; simp only [Bool.and_eq_true, decide_eq_true_eq, beq_iff_eq, true_iff, iff_true, eq_self, Bool.false_eq_true, false_iff, iff_false, true_and, and_true, false_and, and_false, not_false_eq_true, not_true_eq_false, Bool.true_and, Bool.and_true, Bool.false_and, Bool.and_false]; first | done | omega) | (by_cases hx : j.exit = 0 <;> by_cases hs : j.st = 4 <;> simp [bneD, beqD, hx, hs])), D1⟩
      | true =>
        have bo := below_lit w1 (.cells #[.int .i64 j.sub, .int .i64 j.beg, .int .i64 j.fin, .int .i64 1099511627776] 2)
        have kT := order4 j.sub j.beg j.fin MT _ w1.heap.size (cat_lit w1 2 [.int .i64 j.sub, .int .i64 j.beg, .int .i64 j.fin, .int .i64 1099511627776] #[.int .i64 j.sub, .int .i64 j.beg, .int .i64 j.fin, .int .i64 1099511627776] rfl)
        generalize ord4 j.sub j.beg j.fin MT = T at *
        go_wp2_with fail
        refine kT.mono ?_
        rintro e w2 ⟨rfl, hb2⟩
        have D2 := bnext (bnext D1 bo) hb2
        replace v11 := stay (bnext bo hb2) v11
        replace v12 := stay (bnext bo hb2) v12
        replace v13 := stay (bnext bo hb2) v13
        replace v14 := stay (bnext bo hb2) v14
        replace v16 := stay (bnext bo hb2) v16
        clear hlt
        have hlt := World.block_lt_of_cell? _ _ v11
        cases T with
        | false =>
          go_wp2
          all_goals
            (try simp only [beq_iff_eq, beq_eq_false_iff_ne, bne_iff_ne, bne_eq_false_iff_eq] at *)
            go_ret
            exact ⟨ret_bool (by rw [hq.out]; first | rfl | (rw [Bool.eq_iff_iff]; simp only [Bool.and_eq_true, decide_eq_true_eq, beq_iff_eq, true_iff, iff_true, eq_self, Bool.false_eq_true, false_iff, iff_false, true_and, and_true, false_and, and_false, not_false_eq_true, not_true_eq_false, Bool.true_and, Bool.and_true, Bool.false_and, Bool.and_false]; first | done | omega) | (by_cases hx : j.exit = 0 <;> by_cases hs : j.st = 4 <;> simp [bneD, beqD, hx, hs])), D2⟩
        | true =>
          go_wp2
          all_goals
            (try simp only [beq_iff_eq, beq_eq_false_iff_ne, bne_iff_ne, bne_eq_false_iff_eq] at *)
            go_ret
            exact ⟨ret_bool (by rw [hq.out]; first | rfl | (rw [Bool.eq_iff_iff]; simp only [Bool.and_eq_true, decide_eq_true_eq, beq_iff_eq, true_iff, iff_true, eq_self, Bool.false_eq_true, false_iff, iff_false, true_and, and_true, false_and, and_false, not_false_eq_true, not_true_eq_false, Bool.true_and, Bool.and_true, Bool.false_and, Bool.and_false]; first | done | omega) | (by_cases hx : j.exit = 0 <;> by_cases hs : j.st = 4 <;> simp [bneD, beqD, hx, hs])), D2⟩
  have d1 : (j.st == 1) = false := by simpa using e1
  have d2 : (j.st == 2) = false := by simpa using e2
  have d6 : (j.st == 6) = false := by simpa using e6
  have d8 : (j.st == 8) = false := by simpa using e8
  by_cases eo : overB j.st = true
  · have hq := hid (show fitB j = (hasN j.on j.s.nodes && ord4 j.sub j.beg j.fin MT && (decide (j.exit ≠ 0) == decide (j.st = 4))) by unfold fitB; rw [if_neg e1, if_neg e2, if_neg (fun h => h.elim e8 (fun h => e6 h.1)), if_pos eo])
    rw [eo] at kO
    generalize fitB j = R at *
    generalize hasN j.on j.s.nodes = H at *
    replace eo := hid eo
    replace e6 := hid e6
    replace e8 := hid e8
    replace e2 := hid e2
    replace e1 := hid e1
    go_enter Tryz.func72, Tryz.ntmps72
    go_wp2_with fail
    refine (kO _).mono ?_
    rintro e wx ⟨rfl, rfl⟩
    go_wp2_with (refine wpList_load_row rfl 46 (.tmp 1) rfl w.heap.size rfl 46 (jc j).toArray (0, 0) _ u0.out Tryz.underlying46 rfl (by kernel_rfl) ?_)
    refine (kH _).mono ?_
    rintro e w1 ⟨rfl, hb1⟩
    have D1 := bnext bl hb1
    replace v11 := stay hb1 v11
    replace v12 := stay hb1 v12
    replace v13 := stay hb1 v13
    replace v14 := stay hb1 v14
    replace v16 := stay hb1 v16
    replace hlt := World.block_lt_of_cell? _ _ v11
    cases H with
    | false =>
      go_wp2
      all_goals
        (try simp only [beq_iff_eq, beq_eq_false_iff_ne, bne_iff_ne, bne_eq_false_iff_eq] at *)
        go_ret
        exact ⟨ret_bool (by rw [hq.out]; first | rfl | (rw [Bool.eq_iff_iff]; simp only [Bool.and_eq_true, decide_eq_true_eq, beq_iff_eq, true_iff, iff_true, eq_self, Bool.false_eq_true, false_iff, iff_false, true_and, and_true, false_and, and_false, not_false_eq_true, not_true_eq_false, Bool.true_and, Bool.and_true, Bool.false_and, Bool.and_false]; first | done | omega) | (by_cases hx : j.exit = 0 <;> by_cases hs : j.st = 4 <;> simp [bneD, beqD, hx, hs])), D1⟩
    | true =>
      have bo := below_lit w1 (.cells #[.int .i64 j.sub, .int .i64 j.beg, .int .i64 j.fin, .int .i64 1099511627776] 2)
      have kT := order4 j.sub j.beg j.fin MT _ w1.heap.size (cat_lit w1 2 [.int .i64 j.sub, .int .i64 j.beg, .int .i64 j.fin, .int .i64 1099511627776] #[.int .i64 j.sub, .int .i64 j.beg, .int .i64 j.fin, .int .i64 1099511627776] rfl)
      generalize ord4 j.sub j.beg j.fin MT = T at *
      go_wp2_with fail
      refine kT.mono ?_
      rintro e w2 ⟨rfl, hb2⟩
      have D2 := bnext (bnext D1 bo) hb2
      replace v11 := stay (bnext bo hb2) v11
      replace v12 := stay (bnext bo hb2) v12
      replace v13 := stay (bnext bo hb2) v13
      replace v14 := stay (bnext bo hb2) v14
      replace v16 := stay (bnext bo hb2) v16
      clear hlt
      have hlt := World.block_lt_of_cell? _ _ v11
      cases T with
      | false =>
        go_wp2
        all_goals
          (try simp only [beq_iff_eq, beq_eq_false_iff_ne, bne_iff_ne, bne_eq_false_iff_eq] at *)
          go_ret
          exact ⟨ret_bool (by rw [hq.out]; first | rfl | (rw [Bool.eq_iff_iff]; simp only [Bool.and_eq_true, decide_eq_true_eq, beq_iff_eq, true_iff, iff_true, eq_self, Bool.false_eq_true, false_iff, iff_false, true_and, and_true, false_and, and_false, not_false_eq_true, not_true_eq_false, Bool.true_and, Bool.and_true, Bool.false_and, Bool.and_false]; first | done | omega) | (by_cases hx : j.exit = 0 <;> by_cases hs : j.st = 4 <;> simp [bneD, beqD, hx, hs])), D2⟩
      | true =>
        go_wp2
        all_goals
          (try simp only [beq_iff_eq, beq_eq_false_iff_ne, bne_iff_ne, bne_eq_false_iff_eq] at *)
          go_ret
          exact ⟨ret_bool (by rw [hq.out]; first | rfl | (rw [Bool.eq_iff_iff]; simp only [Bool.and_eq_true, decide_eq_true_eq, beq_iff_eq, true_iff, iff_true, eq_self, Bool.false_eq_true, false_iff, iff_false, true_and, and_true, false_and, and_false, not_false_eq_true, not_true_eq_false, Bool.true_and, Bool.and_true, Bool.false_and, Bool.and_false]; first | done | omega) | (by_cases hx : j.exit = 0 <;> by_cases hs : j.st = 4 <;> simp [bneD, beqD, hx, hs])), D2⟩
  · have hq := hid (show fitB j = false by unfold fitB; rw [if_neg e1, if_neg e2, if_neg (fun h => h.elim e8 (fun h => e6 h.1)), if_neg eo])
    replace eo : overB j.st = false := by simpa using eo
    rw [eo] at kO
    generalize fitB j = R at *
    replace eo := hid eo
    replace e6 := hid e6
    replace e8 := hid e8
    replace e2 := hid e2
    replace e1 := hid e1
    go_enter Tryz.func72, Tryz.ntmps72
    go_wp2_with fail
    refine (kO _).mono ?_
    rintro e wx ⟨rfl, rfl⟩
    go_wp2
    go_ret
    exact ⟨ret_bool hq.out.symm, bl⟩

end Go.Proofs.YtomdghodbkhkaaaGreatDoor
