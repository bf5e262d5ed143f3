/- The document's Right, what is not right. -/
import Derived.Test.YtomdghodbkhkaaaGreatDoorJu
namespace Go.Proofs.YtomdghodbkhkaaaGreatDoor
open Go.RowKit
set_option linter.unusedVariables false
set_option linter.unusedSimpArgs false

set_option maxRecDepth 100000 in
set_option maxHeartbeats 2000000 in
theorem rr_n5 (j : Job) (w : World) (h0 : 0 ≤ j.on) (h1 : j.on < 4294967296) (hr : rightB j = false) (c0 : decide (j.id < 1) = false) (c1 : decide (1073741824 < j.id) = false) (c2 : decide (j.arr < 0) = false) (c3 : decide (j.id < j.arr) = false) (c4 : decide (j.idx < 0) = false) (c5 : decide (j.s.nodes < 1) = true) : Calls Tryz.prog 33 #[.agg (jc j).toArray] w fun e w' => e = .returned (.bool (rightB j)) ∧ Below w.heap.size w w' := by
  have hon : ((j.on.toNat : Nat) : Int) = j.on := by omega
  have kL := fun w => Nd.listr_any j.on.toNat (by omega) w
  rw [hon] at kL
  have kO := fun w => rover_any j.st w
  have hH : hasN j.on j.s.nodes = decide (((Nd.cnt j.on.toNat : Nat) : Int) = j.s.nodes) := rfl
  have hlc := lst_cnt j.on.toNat
  obtain ⟨W0, hW0⟩ : ∃ W0, W0 = (w.alloc (.cells (jc j).toArray 46)).alloc (.cells #[.string ⟨#[]⟩, .string ⟨#[]⟩, .string ⟨#[]⟩, .string ⟨#[]⟩, .int .i64 0, .int .i64 0, .int .i64 0, .slice none 0 0] 34) := ⟨_, rfl⟩
  obtain ⟨W1, hW1⟩ : ∃ W1, W1 = W0.setRow (w.heap.size + 1) (sc j.s).toArray := ⟨_, rfl⟩
  have bl0 := below_lit w (.cells (jc j).toArray 46)
  have bl1 := below_lit (w.alloc (.cells (jc j).toArray 46)) (.cells #[.string ⟨#[]⟩, .string ⟨#[]⟩, .string ⟨#[]⟩, .string ⟨#[]⟩, .int .i64 0, .int .i64 0, .int .i64 0, .slice none 0 0] 34)
  have bl := bnext bl0 bl1
  have hr0 : (w.alloc (.cells (jc j).toArray 46)).heap[w.heap.size]? = some (.cells (jc j).toArray 46 (0, 0)) := heap_alloc_new w _
  have r0 : W0.heap[w.heap.size]? = some (.cells (jc j).toArray 46 (0, 0)) := by
    rw [hW0, bl1.block _ (by rw [size_lit]; omega)]; exact hr0
  have r1 : W0.heap[w.heap.size + 1]? = some (.cells #[.string ⟨#[]⟩, .string ⟨#[]⟩, .string ⟨#[]⟩, .string ⟨#[]⟩, .int .i64 0, .int .i64 0, .int .i64 0, .slice none 0 0] 34 (0, 0)) := by
    have := heap_alloc_new (w.alloc (.cells (jc j).toArray 46)) (.cells #[.string ⟨#[]⟩, .string ⟨#[]⟩, .string ⟨#[]⟩, .string ⟨#[]⟩, .int .i64 0, .int .i64 0, .int .i64 0, .slice none 0 0] 34)
    rw [size_lit] at this
    rw [hW0]; exact this
  rw [← hW0] at bl
  have hsz : W0.heap.size = w.heap.size + 1 + 1 := by rw [hW0, size_lit, size_lit]
  have bW : Below w.heap.size w W1 := by rw [hW1]; exact below_setRow bl (by omega) _
  have p0 : W1.heap[w.heap.size]? = some (.cells (jc j).toArray 46 (0, 0)) := by rw [hW1, setRow_other _ _ _ (by omega)]; exact r0
  have p1 : W1.heap[w.heap.size + 1]? = some (.cells (sc j.s).toArray 34 (0, 0)) := by rw [hW1]; exact setRow_heap _ _ _ _ _ _ r1
  have s4 := sc_cell j.s W1 _ p1 4 (.int .i64 j.s.nodes) rfl
  have s5 := sc_cell j.s W1 _ p1 5 (.int .i64 j.s.cores) rfl
  have s6 := sc_cell j.s W1 _ p1 6 (.int .i64 j.s.lim) rfl
  have v0 := row_cell p0 0 (.int .i64 j.id) rfl
  have v1 := row_cell p0 1 (.int .i64 j.arr) rfl
  have v2 := row_cell p0 2 (.int .i64 j.idx) rfl
  have v11 := row_cell p0 11 (.int .u8 j.st) rfl
  have v12 := row_cell p0 12 (.int .i64 j.sub) rfl
  have v13 := row_cell p0 13 (.int .i64 j.beg) rfl
  have v14 := row_cell p0 14 (.int .i64 j.fin) rfl
  have v15 := row_cell p0 15 (.int .u32 j.on) rfl
  have v16 := row_cell p0 16 (.int .i64 j.exit) rfl
  have hm1 := hid (job_range hr0)
  have hlw : w.heap.size + 1 < W1.heap.size := World.block_lt_of_cell? _ _ s4
  clear bl0 bl1 hr0
  rw [hW0] at r1
  rw [hW0] at hW1
  replace r0 := hid r0
  replace r1 := hid r1
  replace p0 := hid p0
  replace p1 := hid p1
  replace hsz := hid hsz
  replace hW0 := hid hW0
  replace hW1 := hid hW1
  replace hon := hid hon
  replace hlc := hid hlc
  replace bl := hid bl
  generalize Nd.L2 (Nd.lst j.on.toNat) = LL at *
  generalize Nd.cnt j.on.toNat = C at *
  rw [hr]
  replace hr := hid hr
  go_enter Tryz.func33, Tryz.ntmps33
  go_wp2_with (first
    | (refine wpList_load_mid rfl 34 (.tmp 5) rfl w.heap.size 3 rfl (sc j.s) _ hm1.out Tryz.underlying34 rfl (by kernel_rfl) ?_)
    | (refine wpList_store_row rfl 34 (.tmp 3) (.tmp 6) rfl (w.heap.size + 1) (sc j.s).toArray rfl rfl 34 _ r1.out (by kernel_rfl) rfl (sc_all _) ?_; rw [← hW1.out]))
  go_ret
  exact ⟨rfl, bW⟩

set_option maxRecDepth 100000 in
set_option maxHeartbeats 2000000 in
theorem rr_n6 (j : Job) (w : World) (h0 : 0 ≤ j.on) (h1 : j.on < 4294967296) (hr : rightB j = false) (c0 : decide (j.id < 1) = false) (c1 : decide (1073741824 < j.id) = false) (c2 : decide (j.arr < 0) = false) (c3 : decide (j.id < j.arr) = false) (c4 : decide (j.idx < 0) = false) (c5 : decide (j.s.nodes < 1) = false) (c6 : decide (32 < j.s.nodes) = true) : Calls Tryz.prog 33 #[.agg (jc j).toArray] w fun e w' => e = .returned (.bool (rightB j)) ∧ Below w.heap.size w w' := by
  have hon : ((j.on.toNat : Nat) : Int) = j.on := by omega
  have kL := fun w => Nd.listr_any j.on.toNat (by omega) w
  rw [hon] at kL
  have kO := fun w => rover_any j.st w
  have hH : hasN j.on j.s.nodes = decide (((Nd.cnt j.on.toNat : Nat) : Int) = j.s.nodes) := rfl
  have hlc := lst_cnt j.on.toNat
  obtain ⟨W0, hW0⟩ : ∃ W0, W0 = (w.alloc (.cells (jc j).toArray 46)).alloc (.cells #[.string ⟨#[]⟩, .string ⟨#[]⟩, .string ⟨#[]⟩, .string ⟨#[]⟩, .int .i64 0, .int .i64 0, .int .i64 0, .slice none 0 0] 34) := ⟨_, rfl⟩
  obtain ⟨W1, hW1⟩ : ∃ W1, W1 = W0.setRow (w.heap.size + 1) (sc j.s).toArray := ⟨_, rfl⟩
  have bl0 := below_lit w (.cells (jc j).toArray 46)
  have bl1 := below_lit (w.alloc (.cells (jc j).toArray 46)) (.cells #[.string ⟨#[]⟩, .string ⟨#[]⟩, .string ⟨#[]⟩, .string ⟨#[]⟩, .int .i64 0, .int .i64 0, .int .i64 0, .slice none 0 0] 34)
  have bl := bnext bl0 bl1
  have hr0 : (w.alloc (.cells (jc j).toArray 46)).heap[w.heap.size]? = some (.cells (jc j).toArray 46 (0, 0)) := heap_alloc_new w _
  have r0 : W0.heap[w.heap.size]? = some (.cells (jc j).toArray 46 (0, 0)) := by
    rw [hW0, bl1.block _ (by rw [size_lit]; omega)]; exact hr0
  have r1 : W0.heap[w.heap.size + 1]? = some (.cells #[.string ⟨#[]⟩, .string ⟨#[]⟩, .string ⟨#[]⟩, .string ⟨#[]⟩, .int .i64 0, .int .i64 0, .int .i64 0, .slice none 0 0] 34 (0, 0)) := by
    have := heap_alloc_new (w.alloc (.cells (jc j).toArray 46)) (.cells #[.string ⟨#[]⟩, .string ⟨#[]⟩, .string ⟨#[]⟩, .string ⟨#[]⟩, .int .i64 0, .int .i64 0, .int .i64 0, .slice none 0 0] 34)
    rw [size_lit] at this
    rw [hW0]; exact this
  rw [← hW0] at bl
  have hsz : W0.heap.size = w.heap.size + 1 + 1 := by rw [hW0, size_lit, size_lit]
  have bW : Below w.heap.size w W1 := by rw [hW1]; exact below_setRow bl (by omega) _
  have p0 : W1.heap[w.heap.size]? = some (.cells (jc j).toArray 46 (0, 0)) := by rw [hW1, setRow_other _ _ _ (by omega)]; exact r0
  have p1 : W1.heap[w.heap.size + 1]? = some (.cells (sc j.s).toArray 34 (0, 0)) := by rw [hW1]; exact setRow_heap _ _ _ _ _ _ r1
  have s4 := sc_cell j.s W1 _ p1 4 (.int .i64 j.s.nodes) rfl
  have s5 := sc_cell j.s W1 _ p1 5 (.int .i64 j.s.cores) rfl
  have s6 := sc_cell j.s W1 _ p1 6 (.int .i64 j.s.lim) rfl
  have v0 := row_cell p0 0 (.int .i64 j.id) rfl
  have v1 := row_cell p0 1 (.int .i64 j.arr) rfl
  have v2 := row_cell p0 2 (.int .i64 j.idx) rfl
  have v11 := row_cell p0 11 (.int .u8 j.st) rfl
  have v12 := row_cell p0 12 (.int .i64 j.sub) rfl
  have v13 := row_cell p0 13 (.int .i64 j.beg) rfl
  have v14 := row_cell p0 14 (.int .i64 j.fin) rfl
  have v15 := row_cell p0 15 (.int .u32 j.on) rfl
  have v16 := row_cell p0 16 (.int .i64 j.exit) rfl
  have hm1 := hid (job_range hr0)
  have hlw : w.heap.size + 1 < W1.heap.size := World.block_lt_of_cell? _ _ s4
  clear bl0 bl1 hr0
  rw [hW0] at r1
  rw [hW0] at hW1
  replace r0 := hid r0
  replace r1 := hid r1
  replace p0 := hid p0
  replace p1 := hid p1
  replace hsz := hid hsz
  replace hW0 := hid hW0
  replace hW1 := hid hW1
  replace hon := hid hon
  replace hlc := hid hlc
  replace bl := hid bl
  generalize Nd.L2 (Nd.lst j.on.toNat) = LL at *
  generalize Nd.cnt j.on.toNat = C at *
  rw [hr]
  replace hr := hid hr
  go_enter Tryz.func33, Tryz.ntmps33
  go_wp2_with (first
    | (refine wpList_load_mid rfl 34 (.tmp 5) rfl w.heap.size 3 rfl (sc j.s) _ hm1.out Tryz.underlying34 rfl (by kernel_rfl) ?_)
    | (refine wpList_store_row rfl 34 (.tmp 3) (.tmp 6) rfl (w.heap.size + 1) (sc j.s).toArray rfl rfl 34 _ r1.out (by kernel_rfl) rfl (sc_all _) ?_; rw [← hW1.out]))
  go_ret
  exact ⟨rfl, bW⟩

set_option maxRecDepth 100000 in
set_option maxHeartbeats 2000000 in
theorem rr_n7 (j : Job) (w : World) (h0 : 0 ≤ j.on) (h1 : j.on < 4294967296) (hr : rightB j = false) (c0 : decide (j.id < 1) = false) (c1 : decide (1073741824 < j.id) = false) (c2 : decide (j.arr < 0) = false) (c3 : decide (j.id < j.arr) = false) (c4 : decide (j.idx < 0) = false) (c5 : decide (j.s.nodes < 1) = false) (c6 : decide (32 < j.s.nodes) = false) (c7 : decide (j.s.cores < 1) = true) : Calls Tryz.prog 33 #[.agg (jc j).toArray] w fun e w' => e = .returned (.bool (rightB j)) ∧ Below w.heap.size w w' := by
  have hon : ((j.on.toNat : Nat) : Int) = j.on := by omega
  have kL := fun w => Nd.listr_any j.on.toNat (by omega) w
  rw [hon] at kL
  have kO := fun w => rover_any j.st w
  have hH : hasN j.on j.s.nodes = decide (((Nd.cnt j.on.toNat : Nat) : Int) = j.s.nodes) := rfl
  have hlc := lst_cnt j.on.toNat
  obtain ⟨W0, hW0⟩ : ∃ W0, W0 = (w.alloc (.cells (jc j).toArray 46)).alloc (.cells #[.string ⟨#[]⟩, .string ⟨#[]⟩, .string ⟨#[]⟩, .string ⟨#[]⟩, .int .i64 0, .int .i64 0, .int .i64 0, .slice none 0 0] 34) := ⟨_, rfl⟩
  obtain ⟨W1, hW1⟩ : ∃ W1, W1 = W0.setRow (w.heap.size + 1) (sc j.s).toArray := ⟨_, rfl⟩
  have bl0 := below_lit w (.cells (jc j).toArray 46)
  have bl1 := below_lit (w.alloc (.cells (jc j).toArray 46)) (.cells #[.string ⟨#[]⟩, .string ⟨#[]⟩, .string ⟨#[]⟩, .string ⟨#[]⟩, .int .i64 0, .int .i64 0, .int .i64 0, .slice none 0 0] 34)
  have bl := bnext bl0 bl1
  have hr0 : (w.alloc (.cells (jc j).toArray 46)).heap[w.heap.size]? = some (.cells (jc j).toArray 46 (0, 0)) := heap_alloc_new w _
  have r0 : W0.heap[w.heap.size]? = some (.cells (jc j).toArray 46 (0, 0)) := by
    rw [hW0, bl1.block _ (by rw [size_lit]; omega)]; exact hr0
  have r1 : W0.heap[w.heap.size + 1]? = some (.cells #[.string ⟨#[]⟩, .string ⟨#[]⟩, .string ⟨#[]⟩, .string ⟨#[]⟩, .int .i64 0, .int .i64 0, .int .i64 0, .slice none 0 0] 34 (0, 0)) := by
    have := heap_alloc_new (w.alloc (.cells (jc j).toArray 46)) (.cells #[.string ⟨#[]⟩, .string ⟨#[]⟩, .string ⟨#[]⟩, .string ⟨#[]⟩, .int .i64 0, .int .i64 0, .int .i64 0, .slice none 0 0] 34)
    rw [size_lit] at this
    rw [hW0]; exact this
  rw [← hW0] at bl
  have hsz : W0.heap.size = w.heap.size + 1 + 1 := by rw [hW0, size_lit, size_lit]
  have bW : Below w.heap.size w W1 := by rw [hW1]; exact below_setRow bl (by omega) _
  have p0 : W1.heap[w.heap.size]? = some (.cells (jc j).toArray 46 (0, 0)) := by rw [hW1, setRow_other _ _ _ (by omega)]; exact r0
  have p1 : W1.heap[w.heap.size + 1]? = some (.cells (sc j.s).toArray 34 (0, 0)) := by rw [hW1]; exact setRow_heap _ _ _ _ _ _ r1
  have s4 := sc_cell j.s W1 _ p1 4 (.int .i64 j.s.nodes) rfl
  have s5 := sc_cell j.s W1 _ p1 5 (.int .i64 j.s.cores) rfl
  have s6 := sc_cell j.s W1 _ p1 6 (.int .i64 j.s.lim) rfl
  have v0 := row_cell p0 0 (.int .i64 j.id) rfl
  have v1 := row_cell p0 1 (.int .i64 j.arr) rfl
  have v2 := row_cell p0 2 (.int .i64 j.idx) rfl
  have v11 := row_cell p0 11 (.int .u8 j.st) rfl
  have v12 := row_cell p0 12 (.int .i64 j.sub) rfl
  have v13 := row_cell p0 13 (.int .i64 j.beg) rfl
  have v14 := row_cell p0 14 (.int .i64 j.fin) rfl
  have v15 := row_cell p0 15 (.int .u32 j.on) rfl
  have v16 := row_cell p0 16 (.int .i64 j.exit) rfl
  have hm1 := hid (job_range hr0)
  have hlw : w.heap.size + 1 < W1.heap.size := World.block_lt_of_cell? _ _ s4
  clear bl0 bl1 hr0
  rw [hW0] at r1
  rw [hW0] at hW1
  replace r0 := hid r0
  replace r1 := hid r1
  replace p0 := hid p0
  replace p1 := hid p1
  replace hsz := hid hsz
  replace hW0 := hid hW0
  replace hW1 := hid hW1
  replace hon := hid hon
  replace hlc := hid hlc
  replace bl := hid bl
  generalize Nd.L2 (Nd.lst j.on.toNat) = LL at *
  generalize Nd.cnt j.on.toNat = C at *
  rw [hr]
  replace hr := hid hr
  go_enter Tryz.func33, Tryz.ntmps33
  go_wp2_with (first
    | (refine wpList_load_mid rfl 34 (.tmp 5) rfl w.heap.size 3 rfl (sc j.s) _ hm1.out Tryz.underlying34 rfl (by kernel_rfl) ?_)
    | (refine wpList_store_row rfl 34 (.tmp 3) (.tmp 6) rfl (w.heap.size + 1) (sc j.s).toArray rfl rfl 34 _ r1.out (by kernel_rfl) rfl (sc_all _) ?_; rw [← hW1.out]))
  go_ret
  exact ⟨rfl, bW⟩

set_option maxRecDepth 100000 in
set_option maxHeartbeats 2000000 in
theorem rr_n8 (j : Job) (w : World) (h0 : 0 ≤ j.on) (h1 : j.on < 4294967296) (hr : rightB j = false) (c0 : decide (j.id < 1) = false) (c1 : decide (1073741824 < j.id) = false) (c2 : decide (j.arr < 0) = false) (c3 : decide (j.id < j.arr) = false) (c4 : decide (j.idx < 0) = false) (c5 : decide (j.s.nodes < 1) = false) (c6 : decide (32 < j.s.nodes) = false) (c7 : decide (j.s.cores < 1) = false) (c8 : decide (64 < j.s.cores) = true) : Calls Tryz.prog 33 #[.agg (jc j).toArray] w fun e w' => e = .returned (.bool (rightB j)) ∧ Below w.heap.size w w' := by
  have hon : ((j.on.toNat : Nat) : Int) = j.on := by omega
  have kL := fun w => Nd.listr_any j.on.toNat (by omega) w
  rw [hon] at kL
  have kO := fun w => rover_any j.st w
  have hH : hasN j.on j.s.nodes = decide (((Nd.cnt j.on.toNat : Nat) : Int) = j.s.nodes) := rfl
  have hlc := lst_cnt j.on.toNat
  obtain ⟨W0, hW0⟩ : ∃ W0, W0 = (w.alloc (.cells (jc j).toArray 46)).alloc (.cells #[.string ⟨#[]⟩, .string ⟨#[]⟩, .string ⟨#[]⟩, .string ⟨#[]⟩, .int .i64 0, .int .i64 0, .int .i64 0, .slice none 0 0] 34) := ⟨_, rfl⟩
  obtain ⟨W1, hW1⟩ : ∃ W1, W1 = W0.setRow (w.heap.size + 1) (sc j.s).toArray := ⟨_, rfl⟩
  have bl0 := below_lit w (.cells (jc j).toArray 46)
  have bl1 := below_lit (w.alloc (.cells (jc j).toArray 46)) (.cells #[.string ⟨#[]⟩, .string ⟨#[]⟩, .string ⟨#[]⟩, .string ⟨#[]⟩, .int .i64 0, .int .i64 0, .int .i64 0, .slice none 0 0] 34)
  have bl := bnext bl0 bl1
  have hr0 : (w.alloc (.cells (jc j).toArray 46)).heap[w.heap.size]? = some (.cells (jc j).toArray 46 (0, 0)) := heap_alloc_new w _
  have r0 : W0.heap[w.heap.size]? = some (.cells (jc j).toArray 46 (0, 0)) := by
    rw [hW0, bl1.block _ (by rw [size_lit]; omega)]; exact hr0
  have r1 : W0.heap[w.heap.size + 1]? = some (.cells #[.string ⟨#[]⟩, .string ⟨#[]⟩, .string ⟨#[]⟩, .string ⟨#[]⟩, .int .i64 0, .int .i64 0, .int .i64 0, .slice none 0 0] 34 (0, 0)) := by
    have := heap_alloc_new (w.alloc (.cells (jc j).toArray 46)) (.cells #[.string ⟨#[]⟩, .string ⟨#[]⟩, .string ⟨#[]⟩, .string ⟨#[]⟩, .int .i64 0, .int .i64 0, .int .i64 0, .slice none 0 0] 34)
    rw [size_lit] at this
    rw [hW0]; exact this
  rw [← hW0] at bl
  have hsz : W0.heap.size = w.heap.size + 1 + 1 := by rw [hW0, size_lit, size_lit]
  have bW : Below w.heap.size w W1 := by rw [hW1]; exact below_setRow bl (by omega) _
  have p0 : W1.heap[w.heap.size]? = some (.cells (jc j).toArray 46 (0, 0)) := by rw [hW1, setRow_other _ _ _ (by omega)]; exact r0
  have p1 : W1.heap[w.heap.size + 1]? = some (.cells (sc j.s).toArray 34 (0, 0)) := by rw [hW1]; exact setRow_heap _ _ _ _ _ _ r1
  have s4 := sc_cell j.s W1 _ p1 4 (.int .i64 j.s.nodes) rfl
  have s5 := sc_cell j.s W1 _ p1 5 (.int .i64 j.s.cores) rfl
  have s6 := sc_cell j.s W1 _ p1 6 (.int .i64 j.s.lim) rfl
  have v0 := row_cell p0 0 (.int .i64 j.id) rfl
  have v1 := row_cell p0 1 (.int .i64 j.arr) rfl
  have v2 := row_cell p0 2 (.int .i64 j.idx) rfl
  have v11 := row_cell p0 11 (.int .u8 j.st) rfl
  have v12 := row_cell p0 12 (.int .i64 j.sub) rfl
  have v13 := row_cell p0 13 (.int .i64 j.beg) rfl
  have v14 := row_cell p0 14 (.int .i64 j.fin) rfl
  have v15 := row_cell p0 15 (.int .u32 j.on) rfl
  have v16 := row_cell p0 16 (.int .i64 j.exit) rfl
  have hm1 := hid (job_range hr0)
  have hlw : w.heap.size + 1 < W1.heap.size := World.block_lt_of_cell? _ _ s4
  clear bl0 bl1 hr0
  rw [hW0] at r1
  rw [hW0] at hW1
  replace r0 := hid r0
  replace r1 := hid r1
  replace p0 := hid p0
  replace p1 := hid p1
  replace hsz := hid hsz
  replace hW0 := hid hW0
  replace hW1 := hid hW1
  replace hon := hid hon
  replace hlc := hid hlc
  replace bl := hid bl
  generalize Nd.L2 (Nd.lst j.on.toNat) = LL at *
  generalize Nd.cnt j.on.toNat = C at *
  rw [hr]
  replace hr := hid hr
  go_enter Tryz.func33, Tryz.ntmps33
  go_wp2_with (first
    | (refine wpList_load_mid rfl 34 (.tmp 5) rfl w.heap.size 3 rfl (sc j.s) _ hm1.out Tryz.underlying34 rfl (by kernel_rfl) ?_)
    | (refine wpList_store_row rfl 34 (.tmp 3) (.tmp 6) rfl (w.heap.size + 1) (sc j.s).toArray rfl rfl 34 _ r1.out (by kernel_rfl) rfl (sc_all _) ?_; rw [← hW1.out]))
  go_ret
  exact ⟨rfl, bW⟩

end Go.Proofs.YtomdghodbkhkaaaGreatDoor
