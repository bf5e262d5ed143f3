/- The document's Right, its ways. -/
import Derived.Test.YtomdghodbkhkaaaGreatDoorJu
namespace Go.Proofs.YtomdghodbkhkaaaGreatDoor
open Go.RowKit
set_option linter.unusedVariables false
set_option linter.unusedSimpArgs false

set_option maxRecDepth 100000 in
set_option maxHeartbeats 2000000 in
theorem rr_e60 (j : Job) (w : World) (h0 : 0 ≤ j.on) (h1 : j.on < 4294967296) (hc : RightAll j) (e1 : ¬ j.st = 1) (e2 : ¬ j.st = 2) (e8 : ¬ j.st = 8) (e6 : j.st = 6) (e0 : j.on = 0) : Calls Tryz.prog 33 #[.agg (jc j).toArray] w fun e w' => e = .returned (.bool (rightB j)) ∧ Below w.heap.size w w' := by
  have hon : ((j.on.toNat : Nat) : Int) = j.on := by omega
  have kL := fun w => Nd.listr_any j.on.toNat (by omega) w
  rw [hon] at kL
  have kO := fun w => rover_any j.st w
  have hH : hasN j.on j.s.nodes = decide (((Nd.cnt j.on.toNat : Nat) : Int) = j.s.nodes) := rfl
  have hlc := lst_cnt j.on.toNat
  obtain ⟨W0, hW0⟩ : ∃ W0, W0 = (w.alloc (.cells (jc j).toArray 46)).alloc (.cells #[.string ⟨#[]⟩, .string ⟨#[]⟩, .string ⟨#[]⟩, .string ⟨#[]⟩, .int .i64 0, .int .i64 0, .int .i64 0, .slice none 0 0] 34) := ⟨_, rfl⟩
  obtain ⟨W1, hW1⟩ : ∃ W1, W1 = W0.setRow (w.heap.size + 1) (sc j.s).toArray := ⟨_, rfl⟩
  have bl0 := below_lit w (.cells (jc j).toArray 46)
  have bl1 := below_lit (w.alloc (.cells (jc j).toArray 46)) (.cells #[.string ⟨#[]⟩, .string ⟨#[]⟩, .string ⟨#[]⟩, .string ⟨#[]⟩, .int .i64 0, .int .i64 0, .int .i64 0, .slice none 0 0] 34)
  have bl := bnext bl0 bl1
  have hr0 : (w.alloc (.cells (jc j).toArray 46)).heap[w.heap.size]? = some (.cells (jc j).toArray 46 (0, 0)) := heap_alloc_new w _
  have r0 : W0.heap[w.heap.size]? = some (.cells (jc j).toArray 46 (0, 0)) := by
    rw [hW0, bl1.block _ (by rw [size_lit]; omega)]; exact hr0
  have r1 : W0.heap[w.heap.size + 1]? = some (.cells #[.string ⟨#[]⟩, .string ⟨#[]⟩, .string ⟨#[]⟩, .string ⟨#[]⟩, .int .i64 0, .int .i64 0, .int .i64 0, .slice none 0 0] 34 (0, 0)) := by
    have := heap_alloc_new (w.alloc (.cells (jc j).toArray 46)) (.cells #[.string ⟨#[]⟩, .string ⟨#[]⟩, .string ⟨#[]⟩, .string ⟨#[]⟩, .int .i64 0, .int .i64 0, .int .i64 0, .slice none 0 0] 34)
    rw [size_lit] at this
    rw [hW0]; exact this
  rw [← hW0] at bl
  have hsz : W0.heap.size = w.heap.size + 1 + 1 := by rw [hW0, size_lit, size_lit]
  have bW : Below w.heap.size w W1 := by rw [hW1]; exact below_setRow bl (by omega) _
  have p0 : W1.heap[w.heap.size]? = some (.cells (jc j).toArray 46 (0, 0)) := by rw [hW1, setRow_other _ _ _ (by omega)]; exact r0
  have p1 : W1.heap[w.heap.size + 1]? = some (.cells (sc j.s).toArray 34 (0, 0)) := by rw [hW1]; exact setRow_heap _ _ _ _ _ _ r1
  have s4 := sc_cell j.s W1 _ p1 4 (.int .i64 j.s.nodes) rfl
  have s5 := sc_cell j.s W1 _ p1 5 (.int .i64 j.s.cores) rfl
  have s6 := sc_cell j.s W1 _ p1 6 (.int .i64 j.s.lim) rfl
  have v0 := row_cell p0 0 (.int .i64 j.id) rfl
  have v1 := row_cell p0 1 (.int .i64 j.arr) rfl
  have v2 := row_cell p0 2 (.int .i64 j.idx) rfl
  have v11 := row_cell p0 11 (.int .u8 j.st) rfl
  have v12 := row_cell p0 12 (.int .i64 j.sub) rfl
  have v13 := row_cell p0 13 (.int .i64 j.beg) rfl
  have v14 := row_cell p0 14 (.int .i64 j.fin) rfl
  have v15 := row_cell p0 15 (.int .u32 j.on) rfl
  have v16 := row_cell p0 16 (.int .i64 j.exit) rfl
  have hm1 := hid (job_range hr0)
  have hlw : w.heap.size + 1 < W1.heap.size := World.block_lt_of_cell? _ _ s4
  clear bl0 bl1 hr0
  rw [hW0] at r1
  rw [hW0] at hW1
  replace r0 := hid r0
  replace r1 := hid r1
  replace p0 := hid p0
  replace p1 := hid p1
  replace hsz := hid hsz
  replace hW0 := hid hW0
  replace hW1 := hid hW1
  replace hon := hid hon
  replace hlc := hid hlc
  replace bl := hid bl
  generalize Nd.L2 (Nd.lst j.on.toNat) = LL at *
  generalize Nd.cnt j.on.toNat = C at *
  have hq := hid (show fitB j = (decide (j.on = 0) && (decide (j.sub ≤ j.fin) && decide (j.fin ≤ 1099511627776)) && decide (j.beg = 0) && decide (j.exit = 0)) by unfold fitB; rw [if_neg e1, if_neg e2, if_pos (.inr ⟨e6, e0⟩)]; rfl)
  rw [right_all j hc]
  obtain ⟨c1, c2, c3, c4, c5, c6, c7, c8, c9, c10, c11, c12, c13⟩ := hc
  replace c1 : decide (j.id < 1) = false := decide_eq_false (by simp only [MT] at *; omega)
  replace c2 : decide (1073741824 < j.id) = false := decide_eq_false (by simp only [MT] at *; omega)
  replace c3 : decide (j.arr < 0) = false := decide_eq_false (by simp only [MT] at *; omega)
  replace c4 : decide (j.id < j.arr) = false := decide_eq_false (by simp only [MT] at *; omega)
  replace c5 : decide (j.idx < 0) = false := decide_eq_false (by simp only [MT] at *; omega)
  replace c6 : decide (j.s.nodes < 1) = false := decide_eq_false (by simp only [MT] at *; omega)
  replace c7 : decide (32 < j.s.nodes) = false := decide_eq_false (by simp only [MT] at *; omega)
  replace c8 : decide (j.s.cores < 1) = false := decide_eq_false (by simp only [MT] at *; omega)
  replace c9 : decide (64 < j.s.cores) = false := decide_eq_false (by simp only [MT] at *; omega)
  replace c10 : decide (j.s.lim < 1) = false := decide_eq_false (by simp only [MT] at *; omega)
  replace c11 : decide (1048576 < j.s.lim) = false := decide_eq_false (by simp only [MT] at *; omega)
  replace c12 : decide (j.sub < 0) = false := decide_eq_false (by simp only [MT] at *; omega)
  replace c13 : decide (1099511627776 < j.sub) = false := decide_eq_false (by simp only [MT] at *; omega)
  generalize fitB j = R at *
  clear hH
  rw [e6] at v11
  rw [e0] at v15 hq kL
  replace e1 := hid e1
  replace e2 := hid e2
  replace e8 := hid e8
  replace e6 := hid e6
  replace e0 := hid e0
  go_enter Tryz.func33, Tryz.ntmps33
  go_wp2_with (first
    | (refine wpList_load_mid rfl 34 (.tmp 5) rfl w.heap.size 3 rfl (sc j.s) _ hm1.out Tryz.underlying34 rfl (by kernel_rfl) ?_)
    | (refine wpList_store_row rfl 34 (.tmp 3) (.tmp 6) rfl (w.heap.size + 1) (sc j.s).toArray rfl rfl 34 _ r1.out (by kernel_rfl) rfl (sc_all _) ?_; rw [← hW1.out]))
  refine (kL _).mono ?_
  rintro e w2 ⟨v, rfl, hown, hb2⟩
  obtain ⟨la, lc, rfl, _⟩ := owns_form hown
  clear hown
  rw [hlc.out]
  have D2 := bnext bW hb2
  replace v11 := stay hb2 v11
  replace v12 := stay hb2 v12
  replace v13 := stay hb2 v13
  replace v14 := stay hb2 v14
  replace v15 := stay hb2 v15
  replace v16 := stay hb2 v16
  replace s4 := stay hb2 s4
  clear v0 v1 v2 s5 s6
  go_wp2
  all_goals
    (try simp only [beq_iff_eq, beq_eq_false_iff_ne, bne_iff_ne, bne_eq_false_iff_eq] at *)
    go_ret
    exact ⟨ret_bool (by rw [hq.out, Bool.eq_iff_iff]; simp only [Bool.and_eq_true, decide_eq_true_eq, beq_iff_eq, true_iff, iff_true, eq_self, Bool.false_eq_true, false_iff, iff_false, true_and, and_true, false_and, and_false, not_false_eq_true, not_true_eq_false, Bool.true_and, Bool.and_true, Bool.false_and, Bool.and_false]; first | done | omega | (by_cases hx : j.exit = 0 <;> by_cases hs : j.st = 4 <;> simp [bneD, beqD, hx, hs] <;> omega)), D2⟩

set_option maxRecDepth 100000 in
set_option maxHeartbeats 2000000 in
theorem rr_e6n (j : Job) (w : World) (h0 : 0 ≤ j.on) (h1 : j.on < 4294967296) (hc : RightAll j) (e1 : ¬ j.st = 1) (e2 : ¬ j.st = 2) (e8 : ¬ j.st = 8) (e6 : j.st = 6) (e0 : ¬ j.on = 0) : Calls Tryz.prog 33 #[.agg (jc j).toArray] w fun e w' => e = .returned (.bool (rightB j)) ∧ Below w.heap.size w w' := by
  have hon : ((j.on.toNat : Nat) : Int) = j.on := by omega
  have kL := fun w => Nd.listr_any j.on.toNat (by omega) w
  rw [hon] at kL
  have kO := fun w => rover_any j.st w
  have hH : hasN j.on j.s.nodes = decide (((Nd.cnt j.on.toNat : Nat) : Int) = j.s.nodes) := rfl
  have hlc := lst_cnt j.on.toNat
  obtain ⟨W0, hW0⟩ : ∃ W0, W0 = (w.alloc (.cells (jc j).toArray 46)).alloc (.cells #[.string ⟨#[]⟩, .string ⟨#[]⟩, .string ⟨#[]⟩, .string ⟨#[]⟩, .int .i64 0, .int .i64 0, .int .i64 0, .slice none 0 0] 34) := ⟨_, rfl⟩
  obtain ⟨W1, hW1⟩ : ∃ W1, W1 = W0.setRow (w.heap.size + 1) (sc j.s).toArray := ⟨_, rfl⟩
  have bl0 := below_lit w (.cells (jc j).toArray 46)
  have bl1 := below_lit (w.alloc (.cells (jc j).toArray 46)) (.cells #[.string ⟨#[]⟩, .string ⟨#[]⟩, .string ⟨#[]⟩, .string ⟨#[]⟩, .int .i64 0, .int .i64 0, .int .i64 0, .slice none 0 0] 34)
  have bl := bnext bl0 bl1
  have hr0 : (w.alloc (.cells (jc j).toArray 46)).heap[w.heap.size]? = some (.cells (jc j).toArray 46 (0, 0)) := heap_alloc_new w _
  have r0 : W0.heap[w.heap.size]? = some (.cells (jc j).toArray 46 (0, 0)) := by
    rw [hW0, bl1.block _ (by rw [size_lit]; omega)]; exact hr0
  have r1 : W0.heap[w.heap.size + 1]? = some (.cells #[.string ⟨#[]⟩, .string ⟨#[]⟩, .string ⟨#[]⟩, .string ⟨#[]⟩, .int .i64 0, .int .i64 0, .int .i64 0, .slice none 0 0] 34 (0, 0)) := by
    have := heap_alloc_new (w.alloc (.cells (jc j).toArray 46)) (.cells #[.string ⟨#[]⟩, .string ⟨#[]⟩, .string ⟨#[]⟩, .string ⟨#[]⟩, .int .i64 0, .int .i64 0, .int .i64 0, .slice none 0 0] 34)
    rw [size_lit] at this
    rw [hW0]; exact this
  rw [← hW0] at bl
  have hsz : W0.heap.size = w.heap.size + 1 + 1 := by rw [hW0, size_lit, size_lit]
  have bW : Below w.heap.size w W1 := by rw [hW1]; exact below_setRow bl (by omega) _
  have p0 : W1.heap[w.heap.size]? = some (.cells (jc j).toArray 46 (0, 0)) := by rw [hW1, setRow_other _ _ _ (by omega)]; exact r0
  have p1 : W1.heap[w.heap.size + 1]? = some (.cells (sc j.s).toArray 34 (0, 0)) := by rw [hW1]; exact setRow_heap _ _ _ _ _ _ r1
  have s4 := sc_cell j.s W1 _ p1 4 (.int .i64 j.s.nodes) rfl
  have s5 := sc_cell j.s W1 _ p1 5 (.int .i64 j.s.cores) rfl
  have s6 := sc_cell j.s W1 _ p1 6 (.int .i64 j.s.lim) rfl
  have v0 := row_cell p0 0 (.int .i64 j.id) rfl
  have v1 := row_cell p0 1 (.int .i64 j.arr) rfl
  have v2 := row_cell p0 2 (.int .i64 j.idx) rfl
  have v11 := row_cell p0 11 (.int .u8 j.st) rfl
  have v12 := row_cell p0 12 (.int .i64 j.sub) rfl
  have v13 := row_cell p0 13 (.int .i64 j.beg) rfl
  have v14 := row_cell p0 14 (.int .i64 j.fin) rfl
  have v15 := row_cell p0 15 (.int .u32 j.on) rfl
  have v16 := row_cell p0 16 (.int .i64 j.exit) rfl
  have hm1 := hid (job_range hr0)
  have hlw : w.heap.size + 1 < W1.heap.size := World.block_lt_of_cell? _ _ s4
  clear bl0 bl1 hr0
  rw [hW0] at r1
  rw [hW0] at hW1
  replace r0 := hid r0
  replace r1 := hid r1
  replace p0 := hid p0
  replace p1 := hid p1
  replace hsz := hid hsz
  replace hW0 := hid hW0
  replace hW1 := hid hW1
  replace hon := hid hon
  replace hlc := hid hlc
  replace bl := hid bl
  generalize Nd.L2 (Nd.lst j.on.toNat) = LL at *
  generalize Nd.cnt j.on.toNat = C at *
  have hq := hid (show fitB j = (decide ((C : Int) = j.s.nodes) && (decide (j.sub ≤ j.beg) && decide (j.beg ≤ j.fin) && decide (j.fin ≤ 1099511627776)) && (decide (j.exit ≠ 0) == decide (j.st = 4))) by unfold fitB; rw [if_neg e1, if_neg e2, if_neg (fun h => h.elim e8 (fun h => e0 h.2)), if_pos (by rw [e6]; rfl), hH]; rfl)
  rw [right_all j hc]
  obtain ⟨c1, c2, c3, c4, c5, c6, c7, c8, c9, c10, c11, c12, c13⟩ := hc
  replace c1 : decide (j.id < 1) = false := decide_eq_false (by simp only [MT] at *; omega)
  replace c2 : decide (1073741824 < j.id) = false := decide_eq_false (by simp only [MT] at *; omega)
  replace c3 : decide (j.arr < 0) = false := decide_eq_false (by simp only [MT] at *; omega)
  replace c4 : decide (j.id < j.arr) = false := decide_eq_false (by simp only [MT] at *; omega)
  replace c5 : decide (j.idx < 0) = false := decide_eq_false (by simp only [MT] at *; omega)
  replace c6 : decide (j.s.nodes < 1) = false := decide_eq_false (by simp only [MT] at *; omega)
  replace c7 : decide (32 < j.s.nodes) = false := decide_eq_false (by simp only [MT] at *; omega)
  replace c8 : decide (j.s.cores < 1) = false := decide_eq_false (by simp only [MT] at *; omega)
  replace c9 : decide (64 < j.s.cores) = false := decide_eq_false (by simp only [MT] at *; omega)
  replace c10 : decide (j.s.lim < 1) = false := decide_eq_false (by simp only [MT] at *; omega)
  replace c11 : decide (1048576 < j.s.lim) = false := decide_eq_false (by simp only [MT] at *; omega)
  replace c12 : decide (j.sub < 0) = false := decide_eq_false (by simp only [MT] at *; omega)
  replace c13 : decide (1099511627776 < j.sub) = false := decide_eq_false (by simp only [MT] at *; omega)
  generalize fitB j = R at *
  clear hH
  rw [e6] at v11
  have d0 : (j.on == 0) = false := by simpa using e0
  have kO := fun w => rover_any 6 w
  rw [show overB 6 = true from rfl] at kO
  rw [e6] at hq
  replace e1 := hid e1
  replace e2 := hid e2
  replace e8 := hid e8
  replace e6 := hid e6
  replace e0 := hid e0
  go_enter Tryz.func33, Tryz.ntmps33
  go_wp2_with (first
    | (refine wpList_load_mid rfl 34 (.tmp 5) rfl w.heap.size 3 rfl (sc j.s) _ hm1.out Tryz.underlying34 rfl (by kernel_rfl) ?_)
    | (refine wpList_store_row rfl 34 (.tmp 3) (.tmp 6) rfl (w.heap.size + 1) (sc j.s).toArray rfl rfl 34 _ r1.out (by kernel_rfl) rfl (sc_all _) ?_; rw [← hW1.out]))
  refine (kL _).mono ?_
  rintro e w2 ⟨v, rfl, hown, hb2⟩
  obtain ⟨la, lc, rfl, _⟩ := owns_form hown
  clear hown
  rw [hlc.out]
  have D2 := bnext bW hb2
  replace v11 := stay hb2 v11
  replace v12 := stay hb2 v12
  replace v13 := stay hb2 v13
  replace v14 := stay hb2 v14
  replace v15 := stay hb2 v15
  replace v16 := stay hb2 v16
  replace s4 := stay hb2 s4
  clear v0 v1 v2 s5 s6
  go_wp2_with fail
  refine (kO _).mono ?_
  rintro e wx ⟨rfl, rfl⟩
  go_wp2
  all_goals
    (try simp only [beq_iff_eq, beq_eq_false_iff_ne, bne_iff_ne, bne_eq_false_iff_eq] at *)
    go_ret
    exact ⟨ret_bool (by rw [hq.out, Bool.eq_iff_iff]; simp only [Bool.and_eq_true, decide_eq_true_eq, beq_iff_eq, true_iff, iff_true, eq_self, Bool.false_eq_true, false_iff, iff_false, true_and, and_true, false_and, and_false, not_false_eq_true, not_true_eq_false, Bool.true_and, Bool.and_true, Bool.false_and, Bool.and_false]; first | done | omega | (by_cases hx : j.exit = 0 <;> by_cases hs : j.st = 4 <;> simp [bneD, beqD, hx, hs] <;> omega)), D2⟩

end Go.Proofs.YtomdghodbkhkaaaGreatDoor
