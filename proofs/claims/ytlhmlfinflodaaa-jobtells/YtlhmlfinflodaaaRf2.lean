/- The document's Finish. -/
import Derived.Test.YtlhmlfinflodaaaRb
import Derived.Test.YtlhmlfinflodaaaJy
import Derived.Deep.DeepCutAuto
namespace Go.Proofs.Ytlhmlfinflodaaa
open Go.RowKit
set_option linter.unusedVariables false
set_option linter.unusedSimpArgs false

theorem fol_exit {j : Job} {s : Int} (h1 : rightB j = true) (h2 : folB j.st s = true) : j.exit = 0 := by
  obtain ⟨ha, hf⟩ := (right_is j).1 h1
  have h3 := (fol_iff _ _).1 h2
  by_cases e1 : j.st = 1
  · exact (fit_one hf e1).2.2.2
  · exact (fit_two hf (by omega)).2.2.2.2

set_option maxRecDepth 100000 in
set_option maxHeartbeats 2000000 in
theorem rf_A (j : Job) (st x now : Int) (D : List Dp) (w : World) (h0 : 0 ≤ j.on) (h1 : j.on < 4294967296) (hD : D.length = j.s.dn) (hl : j.s.dn * 16 ≤ 140737488355328) (hat : DAt w j.s.da D) (hr : rightB j = false) (E : Int) (hE : E = 2) :
    Calls Try.prog 10 #[.agg (jc j).toArray, .int .u8 st, .int .i64 x, .int .i64 now] w fun e w' => BT (w.heap.size + 1 + 1) E (fini j st x now) D e w' ∧ Below w.heap.size w w' := by
  have hst := st_make w j
  obtain ⟨W0, hW0⟩ : ∃ W0, W0 = (w.alloc (.cells (jc j).toArray 29)).alloc (.cells zJ 29) := ⟨_, rfl⟩
  rw [← hW0] at hst
  obtain ⟨r0, r1, hsz, bl⟩ := hst
  replace hE := hid hE
  have kR := fun w => rright_any j w h0 h1
  have kA := hid (fun w5 (hb : Below W0.heap.size W0 w5) => copyjob j D w5 hD hl ((hat.below bl).below hb))
  have kF := fun w => rfol_any j.st st w
  have c11 := row_cell r0 11 (.int .u8 j.st) rfl
  have c12 := row_cell r0 12 (.int .i64 j.sub) rfl
  have c13 := row_cell r0 13 (.int .i64 j.beg) rfl
  have hlt0 : w.heap.size < W0.heap.size := by omega
  rw [hr] at kR
  replace hD := hid hD
  replace hat := hid hat
  replace hr := hid hr
  replace r0 := hid r0
  replace r1 := hid r1
  have r0w := r0
  rw [hW0] at r0w
  go_enter Try.func10, Try.ntmps10
  go_wp2_with (refine wpList_load_row rfl 29 (.tmp 4) rfl w.heap.size rfl 29 (jc j).toArray (0, 0) _ r0w.out Try.underlying29 rfl (by kernel_rfl) ?_)
  rw [← hW0]
  replace hW0 := hid hW0
  clear r0w
  refine (kR _).mono ?_
  rintro e w3 ⟨rfl, B3⟩
  have hs3 := B3.size
  replace c11 := stay B3 c11
  replace c12 := stay B3 c12
  replace c13 := stay B3 c13
  have hlt3 : w.heap.size < w3.heap.size := by omega
  have hq := hE
  have u1 : w3.heap[w.heap.size + 1]? = some (.cells zJ 29 (0, 0)) := by rw [(B3).block _ (by omega)]; exact r1.out
  have v1 := setRow_heap w3 (w.heap.size + 1) _ zJ _ _ u1
  have DD := below_setRow (g := w.heap.size + 1) (bnext bl (B3)) (by omega) zJ
  replace u1 := hid u1
  replace v1 := hid v1
  go_upto_region 2 with fail
  go_wp2_with (refine wpList_store_row rfl 29 (.tmp 8) (.tmp 35) rfl (w.heap.size + 1) zJ rfl rfl 29 _ u1.out (by kernel_rfl) rfl (jc_all job0) ?_)
  (try simp only [Exit.inBlock, Exit.then])
  refine bodyPost_ret (results_cell_tmp rfl _ _ (w.heap.size + 1) 29 zJ (0, 0) _ rfl v1.out Try.underlying29 (by kernel_rfl)) rfl ?_
  exact ⟨.inr ⟨by rw [hq.out]; decide, by rw [hq.out]; rfl⟩, DD⟩

set_option maxRecDepth 100000 in
set_option maxHeartbeats 2000000 in
theorem rf_B1 (j : Job) (st x now : Int) (D : List Dp) (w : World) (h0 : 0 ≤ j.on) (h1 : j.on < 4294967296) (hD : D.length = j.s.dn) (hl : j.s.dn * 16 ≤ 140737488355328) (hat : DAt w j.s.da D) (hr : rightB j = true) (lo : now < j.sub) (E : Int) (hE : E = 2) :
    Calls Try.prog 10 #[.agg (jc j).toArray, .int .u8 st, .int .i64 x, .int .i64 now] w fun e w' => BT (w.heap.size + 1 + 1) E (fini j st x now) D e w' ∧ Below w.heap.size w w' := by
  have hst := st_make w j
  obtain ⟨W0, hW0⟩ : ∃ W0, W0 = (w.alloc (.cells (jc j).toArray 29)).alloc (.cells zJ 29) := ⟨_, rfl⟩
  rw [← hW0] at hst
  obtain ⟨r0, r1, hsz, bl⟩ := hst
  replace hE := hid hE
  have kR := fun w => rright_any j w h0 h1
  have kA := hid (fun w5 (hb : Below W0.heap.size W0 w5) => copyjob j D w5 hD hl ((hat.below bl).below hb))
  have kF := fun w => rfol_any j.st st w
  have c11 := row_cell r0 11 (.int .u8 j.st) rfl
  have c12 := row_cell r0 12 (.int .i64 j.sub) rfl
  have c13 := row_cell r0 13 (.int .i64 j.beg) rfl
  have hlt0 : w.heap.size < W0.heap.size := by omega
  rw [hr] at kR
  have d1 : decide (now < j.sub) = true := decide_eq_true lo
  replace hD := hid hD
  replace hat := hid hat
  replace hr := hid hr
  replace r0 := hid r0
  replace r1 := hid r1
  replace lo := hid lo
  have r0w := r0
  rw [hW0] at r0w
  go_enter Try.func10, Try.ntmps10
  go_wp2_with (refine wpList_load_row rfl 29 (.tmp 4) rfl w.heap.size rfl 29 (jc j).toArray (0, 0) _ r0w.out Try.underlying29 rfl (by kernel_rfl) ?_)
  rw [← hW0]
  replace hW0 := hid hW0
  clear r0w
  refine (kR _).mono ?_
  rintro e w3 ⟨rfl, B3⟩
  have hs3 := B3.size
  replace c11 := stay B3 c11
  replace c12 := stay B3 c12
  replace c13 := stay B3 c13
  have hlt3 : w.heap.size < w3.heap.size := by omega
  have hq := hE
  have u1 : w3.heap[w.heap.size + 1]? = some (.cells zJ 29 (0, 0)) := by rw [(B3).block _ (by omega)]; exact r1.out
  have v1 := setRow_heap w3 (w.heap.size + 1) _ zJ _ _ u1
  have DD := below_setRow (g := w.heap.size + 1) (bnext bl (B3)) (by omega) zJ
  replace u1 := hid u1
  replace v1 := hid v1
  go_upto_region 2 with fail
  go_wp2_with (refine wpList_store_row rfl 29 (.tmp 8) (.tmp 35) rfl (w.heap.size + 1) zJ rfl rfl 29 _ u1.out (by kernel_rfl) rfl (jc_all job0) ?_)
  (try simp only [Exit.inBlock, Exit.then])
  refine bodyPost_ret (results_cell_tmp rfl _ _ (w.heap.size + 1) 29 zJ (0, 0) _ rfl v1.out Try.underlying29 (by kernel_rfl)) rfl ?_
  exact ⟨.inr ⟨by rw [hq.out]; decide, by rw [hq.out]; rfl⟩, DD⟩

set_option maxRecDepth 100000 in
set_option maxHeartbeats 2000000 in
theorem rf_B2 (j : Job) (st x now : Int) (D : List Dp) (w : World) (h0 : 0 ≤ j.on) (h1 : j.on < 4294967296) (hD : D.length = j.s.dn) (hl : j.s.dn * 16 ≤ 140737488355328) (hat : DAt w j.s.da D) (hr : rightB j = true) (lo : ¬ now < j.sub) (s2 : j.st = 2) (lb : now < j.beg) (E : Int) (hE : E = 2) :
    Calls Try.prog 10 #[.agg (jc j).toArray, .int .u8 st, .int .i64 x, .int .i64 now] w fun e w' => BT (w.heap.size + 1 + 1) E (fini j st x now) D e w' ∧ Below w.heap.size w w' := by
  have hst := st_make w j
  obtain ⟨W0, hW0⟩ : ∃ W0, W0 = (w.alloc (.cells (jc j).toArray 29)).alloc (.cells zJ 29) := ⟨_, rfl⟩
  rw [← hW0] at hst
  obtain ⟨r0, r1, hsz, bl⟩ := hst
  replace hE := hid hE
  have kR := fun w => rright_any j w h0 h1
  have kA := hid (fun w5 (hb : Below W0.heap.size W0 w5) => copyjob j D w5 hD hl ((hat.below bl).below hb))
  have kF := fun w => rfol_any j.st st w
  have c11 := row_cell r0 11 (.int .u8 j.st) rfl
  have c12 := row_cell r0 12 (.int .i64 j.sub) rfl
  have c13 := row_cell r0 13 (.int .i64 j.beg) rfl
  have hlt0 : w.heap.size < W0.heap.size := by omega
  rw [hr] at kR
  have d1 : decide (now < j.sub) = false := decide_eq_false lo
  have d2 : (j.st == 2) = true := by simpa using s2
  have d3 : decide (now < j.beg) = true := decide_eq_true lb
  replace hD := hid hD
  replace hat := hid hat
  replace hr := hid hr
  replace r0 := hid r0
  replace r1 := hid r1
  replace lo := hid lo
  replace s2 := hid s2
  replace lb := hid lb
  have r0w := r0
  rw [hW0] at r0w
  go_enter Try.func10, Try.ntmps10
  go_wp2_with (refine wpList_load_row rfl 29 (.tmp 4) rfl w.heap.size rfl 29 (jc j).toArray (0, 0) _ r0w.out Try.underlying29 rfl (by kernel_rfl) ?_)
  rw [← hW0]
  replace hW0 := hid hW0
  clear r0w
  refine (kR _).mono ?_
  rintro e w3 ⟨rfl, B3⟩
  have hs3 := B3.size
  replace c11 := stay B3 c11
  replace c12 := stay B3 c12
  replace c13 := stay B3 c13
  have hlt3 : w.heap.size < w3.heap.size := by omega
  have hq := hE
  have u1 : w3.heap[w.heap.size + 1]? = some (.cells zJ 29 (0, 0)) := by rw [(B3).block _ (by omega)]; exact r1.out
  have v1 := setRow_heap w3 (w.heap.size + 1) _ zJ _ _ u1
  have DD := below_setRow (g := w.heap.size + 1) (bnext bl (B3)) (by omega) zJ
  replace u1 := hid u1
  replace v1 := hid v1
  go_upto_region 2 with fail
  go_wp2_with (refine wpList_store_row rfl 29 (.tmp 8) (.tmp 35) rfl (w.heap.size + 1) zJ rfl rfl 29 _ u1.out (by kernel_rfl) rfl (jc_all job0) ?_)
  (try simp only [Exit.inBlock, Exit.then])
  refine bodyPost_ret (results_cell_tmp rfl _ _ (w.heap.size + 1) 29 zJ (0, 0) _ rfl v1.out Try.underlying29 (by kernel_rfl)) rfl ?_
  exact ⟨.inr ⟨by rw [hq.out]; decide, by rw [hq.out]; rfl⟩, DD⟩

set_option maxRecDepth 100000 in
set_option maxHeartbeats 2000000 in
theorem rf_B3 (j : Job) (st x now : Int) (D : List Dp) (w : World) (h0 : 0 ≤ j.on) (h1 : j.on < 4294967296) (hD : D.length = j.s.dn) (hl : j.s.dn * 16 ≤ 140737488355328) (hat : DAt w j.s.da D) (hr : rightB j = true) (lo : ¬ now < j.sub) (s2 : j.st = 2) (lb : ¬ now < j.beg) (hi : 1099511627776 < now) (E : Int) (hE : E = 2) :
    Calls Try.prog 10 #[.agg (jc j).toArray, .int .u8 st, .int .i64 x, .int .i64 now] w fun e w' => BT (w.heap.size + 1 + 1) E (fini j st x now) D e w' ∧ Below w.heap.size w w' := by
  have hst := st_make w j
  obtain ⟨W0, hW0⟩ : ∃ W0, W0 = (w.alloc (.cells (jc j).toArray 29)).alloc (.cells zJ 29) := ⟨_, rfl⟩
  rw [← hW0] at hst
  obtain ⟨r0, r1, hsz, bl⟩ := hst
  replace hE := hid hE
  have kR := fun w => rright_any j w h0 h1
  have kA := hid (fun w5 (hb : Below W0.heap.size W0 w5) => copyjob j D w5 hD hl ((hat.below bl).below hb))
  have kF := fun w => rfol_any j.st st w
  have c11 := row_cell r0 11 (.int .u8 j.st) rfl
  have c12 := row_cell r0 12 (.int .i64 j.sub) rfl
  have c13 := row_cell r0 13 (.int .i64 j.beg) rfl
  have hlt0 : w.heap.size < W0.heap.size := by omega
  rw [hr] at kR
  have d1 : decide (now < j.sub) = false := decide_eq_false lo
  have d2 : (j.st == 2) = true := by simpa using s2
  have d3 : decide (now < j.beg) = false := decide_eq_false lb
  have d4 : decide (1099511627776 < now) = true := decide_eq_true hi
  replace hD := hid hD
  replace hat := hid hat
  replace hr := hid hr
  replace r0 := hid r0
  replace r1 := hid r1
  replace lo := hid lo
  replace s2 := hid s2
  replace lb := hid lb
  replace hi := hid hi
  have r0w := r0
  rw [hW0] at r0w
  go_enter Try.func10, Try.ntmps10
  go_wp2_with (refine wpList_load_row rfl 29 (.tmp 4) rfl w.heap.size rfl 29 (jc j).toArray (0, 0) _ r0w.out Try.underlying29 rfl (by kernel_rfl) ?_)
  rw [← hW0]
  replace hW0 := hid hW0
  clear r0w
  refine (kR _).mono ?_
  rintro e w3 ⟨rfl, B3⟩
  have hs3 := B3.size
  replace c11 := stay B3 c11
  replace c12 := stay B3 c12
  replace c13 := stay B3 c13
  have hlt3 : w.heap.size < w3.heap.size := by omega
  have hq := hE
  have u1 : w3.heap[w.heap.size + 1]? = some (.cells zJ 29 (0, 0)) := by rw [(B3).block _ (by omega)]; exact r1.out
  have v1 := setRow_heap w3 (w.heap.size + 1) _ zJ _ _ u1
  have DD := below_setRow (g := w.heap.size + 1) (bnext bl (B3)) (by omega) zJ
  replace u1 := hid u1
  replace v1 := hid v1
  go_upto_region 2 with fail
  go_wp2_with (refine wpList_store_row rfl 29 (.tmp 8) (.tmp 35) rfl (w.heap.size + 1) zJ rfl rfl 29 _ u1.out (by kernel_rfl) rfl (jc_all job0) ?_)
  (try simp only [Exit.inBlock, Exit.then])
  refine bodyPost_ret (results_cell_tmp rfl _ _ (w.heap.size + 1) 29 zJ (0, 0) _ rfl v1.out Try.underlying29 (by kernel_rfl)) rfl ?_
  exact ⟨.inr ⟨by rw [hq.out]; decide, by rw [hq.out]; rfl⟩, DD⟩

set_option maxRecDepth 100000 in
set_option maxHeartbeats 2000000 in
theorem rf_B4 (j : Job) (st x now : Int) (D : List Dp) (w : World) (h0 : 0 ≤ j.on) (h1 : j.on < 4294967296) (hD : D.length = j.s.dn) (hl : j.s.dn * 16 ≤ 140737488355328) (hat : DAt w j.s.da D) (hr : rightB j = true) (lo : ¬ now < j.sub) (s2 : ¬ j.st = 2) (hi : 1099511627776 < now) (E : Int) (hE : E = 2) :
    Calls Try.prog 10 #[.agg (jc j).toArray, .int .u8 st, .int .i64 x, .int .i64 now] w fun e w' => BT (w.heap.size + 1 + 1) E (fini j st x now) D e w' ∧ Below w.heap.size w w' := by
  have hst := st_make w j
  obtain ⟨W0, hW0⟩ : ∃ W0, W0 = (w.alloc (.cells (jc j).toArray 29)).alloc (.cells zJ 29) := ⟨_, rfl⟩
  rw [← hW0] at hst
  obtain ⟨r0, r1, hsz, bl⟩ := hst
  replace hE := hid hE
  have kR := fun w => rright_any j w h0 h1
  have kA := hid (fun w5 (hb : Below W0.heap.size W0 w5) => copyjob j D w5 hD hl ((hat.below bl).below hb))
  have kF := fun w => rfol_any j.st st w
  have c11 := row_cell r0 11 (.int .u8 j.st) rfl
  have c12 := row_cell r0 12 (.int .i64 j.sub) rfl
  have c13 := row_cell r0 13 (.int .i64 j.beg) rfl
  have hlt0 : w.heap.size < W0.heap.size := by omega
  rw [hr] at kR
  have d1 : decide (now < j.sub) = false := decide_eq_false lo
  have d2 : (j.st == 2) = false := by simpa using s2
  have d4 : decide (1099511627776 < now) = true := decide_eq_true hi
  replace hD := hid hD
  replace hat := hid hat
  replace hr := hid hr
  replace r0 := hid r0
  replace r1 := hid r1
  replace lo := hid lo
  replace s2 := hid s2
  replace hi := hid hi
  have r0w := r0
  rw [hW0] at r0w
  go_enter Try.func10, Try.ntmps10
  go_wp2_with (refine wpList_load_row rfl 29 (.tmp 4) rfl w.heap.size rfl 29 (jc j).toArray (0, 0) _ r0w.out Try.underlying29 rfl (by kernel_rfl) ?_)
  rw [← hW0]
  replace hW0 := hid hW0
  clear r0w
  refine (kR _).mono ?_
  rintro e w3 ⟨rfl, B3⟩
  have hs3 := B3.size
  replace c11 := stay B3 c11
  replace c12 := stay B3 c12
  replace c13 := stay B3 c13
  have hlt3 : w.heap.size < w3.heap.size := by omega
  have hq := hE
  have u1 : w3.heap[w.heap.size + 1]? = some (.cells zJ 29 (0, 0)) := by rw [(B3).block _ (by omega)]; exact r1.out
  have v1 := setRow_heap w3 (w.heap.size + 1) _ zJ _ _ u1
  have DD := below_setRow (g := w.heap.size + 1) (bnext bl (B3)) (by omega) zJ
  replace u1 := hid u1
  replace v1 := hid v1
  go_upto_region 2 with fail
  go_wp2_with (refine wpList_store_row rfl 29 (.tmp 8) (.tmp 35) rfl (w.heap.size + 1) zJ rfl rfl 29 _ u1.out (by kernel_rfl) rfl (jc_all job0) ?_)
  (try simp only [Exit.inBlock, Exit.then])
  refine bodyPost_ret (results_cell_tmp rfl _ _ (w.heap.size + 1) 29 zJ (0, 0) _ rfl v1.out Try.underlying29 (by kernel_rfl)) rfl ?_
  exact ⟨.inr ⟨by rw [hq.out]; decide, by rw [hq.out]; rfl⟩, DD⟩

set_option maxRecDepth 100000 in
set_option maxHeartbeats 2000000 in
theorem rf_C1 (j : Job) (st x now : Int) (D : List Dp) (w : World) (h0 : 0 ≤ j.on) (h1 : j.on < 4294967296) (hD : D.length = j.s.dn) (hl : j.s.dn * 16 ≤ 140737488355328) (hat : DAt w j.s.da D) (hr : rightB j = true) (lo : ¬ now < j.sub) (s2 : j.st = 2) (lb : ¬ now < j.beg) (hi : ¬ 1099511627776 < now) (E : Int) (hE : E = (if overB st = true ∧ folB j.st st = true then 0 else 180)) :
    Calls Try.prog 10 #[.agg (jc j).toArray, .int .u8 st, .int .i64 x, .int .i64 now] w fun e w' => BT (w.heap.size + 1 + 1) E (fini j st x now) D e w' ∧ Below w.heap.size w w' := by
  have hst := st_make w j
  obtain ⟨W0, hW0⟩ : ∃ W0, W0 = (w.alloc (.cells (jc j).toArray 29)).alloc (.cells zJ 29) := ⟨_, rfl⟩
  rw [← hW0] at hst
  obtain ⟨r0, r1, hsz, bl⟩ := hst
  replace hE := hid hE
  have kR := fun w => rright_any j w h0 h1
  have kA := hid (fun w5 (hb : Below W0.heap.size W0 w5) => copyjob j D w5 hD hl ((hat.below bl).below hb))
  have kF := fun w => rfol_any j.st st w
  have c11 := row_cell r0 11 (.int .u8 j.st) rfl
  have c12 := row_cell r0 12 (.int .i64 j.sub) rfl
  have c13 := row_cell r0 13 (.int .i64 j.beg) rfl
  have hlt0 : w.heap.size < W0.heap.size := by omega
  have hxe := hid (fun h => fol_exit (s := st) hr h)
  rw [hr] at kR
  have d1 : decide (now < j.sub) = false := decide_eq_false lo
  have d2 : (j.st == 2) = true := by simpa using s2
  have d3 : decide (now < j.beg) = false := decide_eq_false lb
  have d4 : decide (1099511627776 < now) = false := decide_eq_false hi
  replace hD := hid hD
  replace hat := hid hat
  replace hr := hid hr
  replace r0 := hid r0
  replace r1 := hid r1
  replace lo := hid lo
  replace s2 := hid s2
  replace lb := hid lb
  replace hi := hid hi
  have r0w := r0
  rw [hW0] at r0w
  go_enter Try.func10, Try.ntmps10
  go_wp2_with (refine wpList_load_row rfl 29 (.tmp 4) rfl w.heap.size rfl 29 (jc j).toArray (0, 0) _ r0w.out Try.underlying29 rfl (by kernel_rfl) ?_)
  rw [← hW0]
  replace hW0 := hid hW0
  clear r0w
  refine (kR _).mono ?_
  rintro e w3 ⟨rfl, B3⟩
  have hs3 := B3.size
  replace c11 := stay B3 c11
  replace c12 := stay B3 c12
  replace c13 := stay B3 c13
  have hlt3 : w.heap.size < w3.heap.size := by omega
  cases hF : (folB j.st st && overB st) with
  | false =>
    have hq : Hid (E = 180) := hid (by rw [hE.out, if_neg (fun h => by rw [h.1, h.2] at hF; cases hF)])
    rw [hF] at kF
    replace hF := hid hF
    go_wp2_with fail
    refine (kF _).mono ?_
    rintro e wy ⟨rfl, rfl⟩
    have u1 : wy.heap[w.heap.size + 1]? = some (.cells zJ 29 (0, 0)) := by rw [(B3).block _ (by omega)]; exact r1.out
    have v1 := setRow_heap wy (w.heap.size + 1) _ zJ _ _ u1
    have DD := below_setRow (g := w.heap.size + 1) (bnext bl (B3)) (by omega) zJ
    replace u1 := hid u1
    replace v1 := hid v1
    go_wp2_with (refine wpList_store_row rfl 29 (.tmp 8) (.tmp 41) rfl (w.heap.size + 1) zJ rfl rfl 29 _ u1.out (by kernel_rfl) rfl (jc_all job0) ?_)
    (try simp only [Exit.inBlock, Exit.then])
    refine bodyPost_ret (results_cell_tmp rfl _ _ (w.heap.size + 1) 29 zJ (0, 0) _ rfl v1.out Try.underlying29 (by kernel_rfl)) rfl ?_
    exact ⟨.inr ⟨by rw [hq.out]; decide, by rw [hq.out]; rfl⟩, DD⟩
  | true =>
    have hF2 := hF
    rw [Bool.and_eq_true] at hF2
    have hq : Hid (E = 0) := hid (by rw [hE.out, if_pos ⟨hF2.2, hF2.1⟩])
    have hx0 := hxe.out hF2.1
    rw [hF] at kF
    replace hF := hid hF
    replace hF2 := hid hF2
    have q0 : w3.heap[w.heap.size]? = some (.cells (jc j).toArray 29 (0, 0)) := by rw [B3.block _ (by omega)]; exact r0.out
    have q1 : w3.heap[w.heap.size + 1]? = some (.cells zJ 29 (0, 0)) := by rw [B3.block _ (by omega)]; exact r1.out
    replace q0 := hid q0
    replace q1 := hid q1
    go_wp2_with fail
    refine (kF _).mono ?_
    rintro e wy ⟨rfl, rfl⟩
    go_wp2_with (refine wpList_load_row rfl 29 (.tmp 4) rfl w.heap.size rfl 29 (jc j).toArray (0, 0) _ q0.out Try.underlying29 rfl (by kernel_rfl) ?_)
    refine (kA.out _ B3).mono ?_
    rintro e w6 ⟨x1, y1, rfl, hy, ho, hb6⟩
    have D6 := bnext bl (bnext B3 hb6)
    have p1 : w6.heap[w.heap.size + 1]? = some (.cells zJ 29 (0, 0)) := by rw [hb6.block _ (by omega)]; exact q1.out
    have hs6 := hb6.size
    obtain ⟨X, hX⟩ : ∃ X, X = exP st x := ⟨_, rfl⟩
    have hX2 : X = if st = 4 then (if x = 0 then 1 else x) else 0 := hX
    obtain ⟨J, hJ⟩ : ∃ J, J = (fini j st x now).re x1 y1 := ⟨_, rfl⟩
    have hJc : (jc J).toArray = #[.int .i64 j.id, .int .i64 j.arr, .int .i64 j.idx, .string j.s.user, .string j.s.acct, .string j.s.qos, .string j.s.part, .int .i64 j.s.nodes, .int .i64 j.s.cores, .int .i64 j.s.lim, .slice x1 j.s.dn y1, .int .u8 st, .int .i64 j.sub, .int .i64 j.beg, .int .i64 now, .int .u32 j.on, .int .i64 X] := by rw [hJ, hX]; rfl
    have al1 := below_lit w6 (.cells (jc J).toArray 29)
    have v8 := heap_alloc_new w6 (.cells (jc J).toArray 29)
    have p1b : (w6.alloc (.cells (jc J).toArray 29)).heap[w.heap.size + 1]? = some (.cells zJ 29 (0, 0)) := by rw [al1.block _ (by omega)]; exact p1
    have v1 := setRow_heap (w6.alloc (.cells (jc J).toArray 29)) (w.heap.size + 1) _ (jc J).toArray _ _ p1b
    have D7 := bnext bl (bnext (bnext B3 hb6) al1)
    have D8 := below_setRow (g := w.heap.size + 1) D7 (by omega) (jc J).toArray
    have ho2 := (ho.below al1)
    have K3 : Kp (fun k => k = w.heap.size + 1) (w6.alloc (.cells (jc J).toArray 29)) ((w6.alloc (.cells (jc J).toArray 29)).setRow (w.heap.size + 1) (jc J).toArray) := kp_setRow (S := fun k => k = w.heap.size + 1) (Kp.refl _ _) rfl _
    have o3 := owns_low (base' := w.heap.size + 1 + 1) (owns_kp ho2 K3 (fun k hk h => by have := (World.ownsRow.lt ho2 k hk).1; omega)) (by omega)
    rw [hJc] at p1b v8
    replace hJ := hid hJ
    replace hJc := hid hJc
    replace hX := hid hX
    replace v1 := hid v1
    replace o3 := hid o3
    replace ho := hid ho
    replace ho2 := hid ho2
    replace K3 := hid K3
    replace D8 := hid D8
    simp only [jc, Job.re, Spc.re]
    rw [hx0]
    replace hx0 := hid hx0
    by_cases h4 : st = 4
    · have e4 : (st == 4) = true := by simpa using h4
      rw [if_pos h4] at hX2
      by_cases hx : x = 0
      · have ex : (x == 0) = true := by simpa using hx
        rw [if_pos hx] at hX2
        rw [hX2] at p1b v8 hJc
        replace p1b := hid p1b
        replace v8 := hid v8
        replace hX2 := hid hX2
        replace h4 := hid h4
        replace hx := hid hx
        go_wp2_with (first
          | (refine wpList_store_row rfl 29 (.tmp 10) (.tmp 43) rfl w6.heap.size (jc ⟨j.id, j.arr, j.idx, j.s.re x1 y1, j.st, j.sub, j.beg, j.fin, j.on, 0⟩).toArray rfl rfl 29 _ (heap_alloc_new w6 _) (by kernel_rfl) rfl (jc_all _) ?_; rw [alloc_setRow]; simp only [jc, Job.re, Spc.re])
          | (refine wpList_load_row rfl 29 (.tmp 10) rfl w6.heap.size rfl 29 _ (0, 0) _ v8.out Try.underlying29 rfl (by kernel_rfl) ?_)
          | (refine wpList_store_row rfl 29 (.tmp 8) (.tmp 55) rfl (w.heap.size + 1) (jc J).toArray rfl (by rw [hJc.out]; rfl) 29 _ p1b.out (by kernel_rfl) rfl (jc_all _) ?_))
        (try simp only [Exit.inBlock, Exit.then])
        rw [← hJc.out]
        refine bodyPost_ret (results_cell_tmp rfl _ _ (w.heap.size + 1) 29 (jc J).toArray (0, 0) _ rfl v1.out Try.underlying29 (by kernel_rfl)) rfl ?_
        exact ⟨.inl ⟨hq.out, x1, y1, by rw [hJ.out]; rfl, hy, o3.out⟩, D8.out⟩
      · have ex : (x == 0) = false := by simpa using hx
        rw [if_neg hx] at hX2
        rw [hX2] at p1b v8 hJc
        replace p1b := hid p1b
        replace v8 := hid v8
        replace hX2 := hid hX2
        replace h4 := hid h4
        replace hx := hid hx
        go_wp2_with (first
          | (refine wpList_store_row rfl 29 (.tmp 10) (.tmp 43) rfl w6.heap.size (jc ⟨j.id, j.arr, j.idx, j.s.re x1 y1, j.st, j.sub, j.beg, j.fin, j.on, 0⟩).toArray rfl rfl 29 _ (heap_alloc_new w6 _) (by kernel_rfl) rfl (jc_all _) ?_; rw [alloc_setRow]; simp only [jc, Job.re, Spc.re])
          | (refine wpList_load_row rfl 29 (.tmp 10) rfl w6.heap.size rfl 29 _ (0, 0) _ v8.out Try.underlying29 rfl (by kernel_rfl) ?_)
          | (refine wpList_store_row rfl 29 (.tmp 8) (.tmp 55) rfl (w.heap.size + 1) (jc J).toArray rfl (by rw [hJc.out]; rfl) 29 _ p1b.out (by kernel_rfl) rfl (jc_all _) ?_))
        (try simp only [Exit.inBlock, Exit.then])
        rw [← hJc.out]
        refine bodyPost_ret (results_cell_tmp rfl _ _ (w.heap.size + 1) 29 (jc J).toArray (0, 0) _ rfl v1.out Try.underlying29 (by kernel_rfl)) rfl ?_
        exact ⟨.inl ⟨hq.out, x1, y1, by rw [hJ.out]; rfl, hy, o3.out⟩, D8.out⟩
    · have e4 : (st == 4) = false := by simpa using h4
      have ex : True := trivial
      have hx : True := trivial
      rw [if_neg h4] at hX2
      rw [hX2] at p1b v8 hJc
      replace p1b := hid p1b
      replace v8 := hid v8
      replace hX2 := hid hX2
      replace h4 := hid h4
      replace hx := hid hx
      go_wp2_with (first
        | (refine wpList_store_row rfl 29 (.tmp 10) (.tmp 43) rfl w6.heap.size (jc ⟨j.id, j.arr, j.idx, j.s.re x1 y1, j.st, j.sub, j.beg, j.fin, j.on, 0⟩).toArray rfl rfl 29 _ (heap_alloc_new w6 _) (by kernel_rfl) rfl (jc_all _) ?_; rw [alloc_setRow]; simp only [jc, Job.re, Spc.re])
        | (refine wpList_load_row rfl 29 (.tmp 10) rfl w6.heap.size rfl 29 _ (0, 0) _ v8.out Try.underlying29 rfl (by kernel_rfl) ?_)
        | (refine wpList_store_row rfl 29 (.tmp 8) (.tmp 55) rfl (w.heap.size + 1) (jc J).toArray rfl (by rw [hJc.out]; rfl) 29 _ p1b.out (by kernel_rfl) rfl (jc_all _) ?_))
      (try simp only [Exit.inBlock, Exit.then])
      rw [← hJc.out]
      refine bodyPost_ret (results_cell_tmp rfl _ _ (w.heap.size + 1) 29 (jc J).toArray (0, 0) _ rfl v1.out Try.underlying29 (by kernel_rfl)) rfl ?_
      exact ⟨.inl ⟨hq.out, x1, y1, by rw [hJ.out]; rfl, hy, o3.out⟩, D8.out⟩

set_option maxRecDepth 100000 in
set_option maxHeartbeats 2000000 in
theorem rf_C2 (j : Job) (st x now : Int) (D : List Dp) (w : World) (h0 : 0 ≤ j.on) (h1 : j.on < 4294967296) (hD : D.length = j.s.dn) (hl : j.s.dn * 16 ≤ 140737488355328) (hat : DAt w j.s.da D) (hr : rightB j = true) (lo : ¬ now < j.sub) (s2 : ¬ j.st = 2) (hi : ¬ 1099511627776 < now) (E : Int) (hE : E = (if overB st = true ∧ folB j.st st = true then 0 else 180)) :
    Calls Try.prog 10 #[.agg (jc j).toArray, .int .u8 st, .int .i64 x, .int .i64 now] w fun e w' => BT (w.heap.size + 1 + 1) E (fini j st x now) D e w' ∧ Below w.heap.size w w' := by
  have hst := st_make w j
  obtain ⟨W0, hW0⟩ : ∃ W0, W0 = (w.alloc (.cells (jc j).toArray 29)).alloc (.cells zJ 29) := ⟨_, rfl⟩
  rw [← hW0] at hst
  obtain ⟨r0, r1, hsz, bl⟩ := hst
  replace hE := hid hE
  have kR := fun w => rright_any j w h0 h1
  have kA := hid (fun w5 (hb : Below W0.heap.size W0 w5) => copyjob j D w5 hD hl ((hat.below bl).below hb))
  have kF := fun w => rfol_any j.st st w
  have c11 := row_cell r0 11 (.int .u8 j.st) rfl
  have c12 := row_cell r0 12 (.int .i64 j.sub) rfl
  have c13 := row_cell r0 13 (.int .i64 j.beg) rfl
  have hlt0 : w.heap.size < W0.heap.size := by omega
  have hxe := hid (fun h => fol_exit (s := st) hr h)
  rw [hr] at kR
  have d1 : decide (now < j.sub) = false := decide_eq_false lo
  have d2 : (j.st == 2) = false := by simpa using s2
  have d4 : decide (1099511627776 < now) = false := decide_eq_false hi
  replace hD := hid hD
  replace hat := hid hat
  replace hr := hid hr
  replace r0 := hid r0
  replace r1 := hid r1
  replace lo := hid lo
  replace s2 := hid s2
  replace hi := hid hi
  have r0w := r0
  rw [hW0] at r0w
  go_enter Try.func10, Try.ntmps10
  go_wp2_with (refine wpList_load_row rfl 29 (.tmp 4) rfl w.heap.size rfl 29 (jc j).toArray (0, 0) _ r0w.out Try.underlying29 rfl (by kernel_rfl) ?_)
  rw [← hW0]
  replace hW0 := hid hW0
  clear r0w
  refine (kR _).mono ?_
  rintro e w3 ⟨rfl, B3⟩
  have hs3 := B3.size
  replace c11 := stay B3 c11
  replace c12 := stay B3 c12
  replace c13 := stay B3 c13
  have hlt3 : w.heap.size < w3.heap.size := by omega
  cases hF : (folB j.st st && overB st) with
  | false =>
    have hq : Hid (E = 180) := hid (by rw [hE.out, if_neg (fun h => by rw [h.1, h.2] at hF; cases hF)])
    rw [hF] at kF
    replace hF := hid hF
    go_wp2_with fail
    refine (kF _).mono ?_
    rintro e wy ⟨rfl, rfl⟩
    have u1 : wy.heap[w.heap.size + 1]? = some (.cells zJ 29 (0, 0)) := by rw [(B3).block _ (by omega)]; exact r1.out
    have v1 := setRow_heap wy (w.heap.size + 1) _ zJ _ _ u1
    have DD := below_setRow (g := w.heap.size + 1) (bnext bl (B3)) (by omega) zJ
    replace u1 := hid u1
    replace v1 := hid v1
    go_wp2_with (refine wpList_store_row rfl 29 (.tmp 8) (.tmp 41) rfl (w.heap.size + 1) zJ rfl rfl 29 _ u1.out (by kernel_rfl) rfl (jc_all job0) ?_)
    (try simp only [Exit.inBlock, Exit.then])
    refine bodyPost_ret (results_cell_tmp rfl _ _ (w.heap.size + 1) 29 zJ (0, 0) _ rfl v1.out Try.underlying29 (by kernel_rfl)) rfl ?_
    exact ⟨.inr ⟨by rw [hq.out]; decide, by rw [hq.out]; rfl⟩, DD⟩
  | true =>
    have hF2 := hF
    rw [Bool.and_eq_true] at hF2
    have hq : Hid (E = 0) := hid (by rw [hE.out, if_pos ⟨hF2.2, hF2.1⟩])
    have hx0 := hxe.out hF2.1
    rw [hF] at kF
    replace hF := hid hF
    replace hF2 := hid hF2
    have q0 : w3.heap[w.heap.size]? = some (.cells (jc j).toArray 29 (0, 0)) := by rw [B3.block _ (by omega)]; exact r0.out
    have q1 : w3.heap[w.heap.size + 1]? = some (.cells zJ 29 (0, 0)) := by rw [B3.block _ (by omega)]; exact r1.out
    replace q0 := hid q0
    replace q1 := hid q1
    go_wp2_with fail
    refine (kF _).mono ?_
    rintro e wy ⟨rfl, rfl⟩
    go_wp2_with (refine wpList_load_row rfl 29 (.tmp 4) rfl w.heap.size rfl 29 (jc j).toArray (0, 0) _ q0.out Try.underlying29 rfl (by kernel_rfl) ?_)
    refine (kA.out _ B3).mono ?_
    rintro e w6 ⟨x1, y1, rfl, hy, ho, hb6⟩
    have D6 := bnext bl (bnext B3 hb6)
    have p1 : w6.heap[w.heap.size + 1]? = some (.cells zJ 29 (0, 0)) := by rw [hb6.block _ (by omega)]; exact q1.out
    have hs6 := hb6.size
    obtain ⟨X, hX⟩ : ∃ X, X = exP st x := ⟨_, rfl⟩
    have hX2 : X = if st = 4 then (if x = 0 then 1 else x) else 0 := hX
    obtain ⟨J, hJ⟩ : ∃ J, J = (fini j st x now).re x1 y1 := ⟨_, rfl⟩
    have hJc : (jc J).toArray = #[.int .i64 j.id, .int .i64 j.arr, .int .i64 j.idx, .string j.s.user, .string j.s.acct, .string j.s.qos, .string j.s.part, .int .i64 j.s.nodes, .int .i64 j.s.cores, .int .i64 j.s.lim, .slice x1 j.s.dn y1, .int .u8 st, .int .i64 j.sub, .int .i64 j.beg, .int .i64 now, .int .u32 j.on, .int .i64 X] := by rw [hJ, hX]; rfl
    have al1 := below_lit w6 (.cells (jc J).toArray 29)
    have v8 := heap_alloc_new w6 (.cells (jc J).toArray 29)
    have p1b : (w6.alloc (.cells (jc J).toArray 29)).heap[w.heap.size + 1]? = some (.cells zJ 29 (0, 0)) := by rw [al1.block _ (by omega)]; exact p1
    have v1 := setRow_heap (w6.alloc (.cells (jc J).toArray 29)) (w.heap.size + 1) _ (jc J).toArray _ _ p1b
    have D7 := bnext bl (bnext (bnext B3 hb6) al1)
    have D8 := below_setRow (g := w.heap.size + 1) D7 (by omega) (jc J).toArray
    have ho2 := (ho.below al1)
    have K3 : Kp (fun k => k = w.heap.size + 1) (w6.alloc (.cells (jc J).toArray 29)) ((w6.alloc (.cells (jc J).toArray 29)).setRow (w.heap.size + 1) (jc J).toArray) := kp_setRow (S := fun k => k = w.heap.size + 1) (Kp.refl _ _) rfl _
    have o3 := owns_low (base' := w.heap.size + 1 + 1) (owns_kp ho2 K3 (fun k hk h => by have := (World.ownsRow.lt ho2 k hk).1; omega)) (by omega)
    rw [hJc] at p1b v8
    replace hJ := hid hJ
    replace hJc := hid hJc
    replace hX := hid hX
    replace v1 := hid v1
    replace o3 := hid o3
    replace ho := hid ho
    replace ho2 := hid ho2
    replace K3 := hid K3
    replace D8 := hid D8
    simp only [jc, Job.re, Spc.re]
    rw [hx0]
    replace hx0 := hid hx0
    by_cases h4 : st = 4
    · have e4 : (st == 4) = true := by simpa using h4
      rw [if_pos h4] at hX2
      by_cases hx : x = 0
      · have ex : (x == 0) = true := by simpa using hx
        rw [if_pos hx] at hX2
        rw [hX2] at p1b v8 hJc
        replace p1b := hid p1b
        replace v8 := hid v8
        replace hX2 := hid hX2
        replace h4 := hid h4
        replace hx := hid hx
        go_wp2_with (first
          | (refine wpList_store_row rfl 29 (.tmp 10) (.tmp 43) rfl w6.heap.size (jc ⟨j.id, j.arr, j.idx, j.s.re x1 y1, j.st, j.sub, j.beg, j.fin, j.on, 0⟩).toArray rfl rfl 29 _ (heap_alloc_new w6 _) (by kernel_rfl) rfl (jc_all _) ?_; rw [alloc_setRow]; simp only [jc, Job.re, Spc.re])
          | (refine wpList_load_row rfl 29 (.tmp 10) rfl w6.heap.size rfl 29 _ (0, 0) _ v8.out Try.underlying29 rfl (by kernel_rfl) ?_)
          | (refine wpList_store_row rfl 29 (.tmp 8) (.tmp 55) rfl (w.heap.size + 1) (jc J).toArray rfl (by rw [hJc.out]; rfl) 29 _ p1b.out (by kernel_rfl) rfl (jc_all _) ?_))
        (try simp only [Exit.inBlock, Exit.then])
        rw [← hJc.out]
        refine bodyPost_ret (results_cell_tmp rfl _ _ (w.heap.size + 1) 29 (jc J).toArray (0, 0) _ rfl v1.out Try.underlying29 (by kernel_rfl)) rfl ?_
        exact ⟨.inl ⟨hq.out, x1, y1, by rw [hJ.out]; rfl, hy, o3.out⟩, D8.out⟩
      · have ex : (x == 0) = false := by simpa using hx
        rw [if_neg hx] at hX2
        rw [hX2] at p1b v8 hJc
        replace p1b := hid p1b
        replace v8 := hid v8
        replace hX2 := hid hX2
        replace h4 := hid h4
        replace hx := hid hx
        go_wp2_with (first
          | (refine wpList_store_row rfl 29 (.tmp 10) (.tmp 43) rfl w6.heap.size (jc ⟨j.id, j.arr, j.idx, j.s.re x1 y1, j.st, j.sub, j.beg, j.fin, j.on, 0⟩).toArray rfl rfl 29 _ (heap_alloc_new w6 _) (by kernel_rfl) rfl (jc_all _) ?_; rw [alloc_setRow]; simp only [jc, Job.re, Spc.re])
          | (refine wpList_load_row rfl 29 (.tmp 10) rfl w6.heap.size rfl 29 _ (0, 0) _ v8.out Try.underlying29 rfl (by kernel_rfl) ?_)
          | (refine wpList_store_row rfl 29 (.tmp 8) (.tmp 55) rfl (w.heap.size + 1) (jc J).toArray rfl (by rw [hJc.out]; rfl) 29 _ p1b.out (by kernel_rfl) rfl (jc_all _) ?_))
        (try simp only [Exit.inBlock, Exit.then])
        rw [← hJc.out]
        refine bodyPost_ret (results_cell_tmp rfl _ _ (w.heap.size + 1) 29 (jc J).toArray (0, 0) _ rfl v1.out Try.underlying29 (by kernel_rfl)) rfl ?_
        exact ⟨.inl ⟨hq.out, x1, y1, by rw [hJ.out]; rfl, hy, o3.out⟩, D8.out⟩
    · have e4 : (st == 4) = false := by simpa using h4
      have ex : True := trivial
      have hx : True := trivial
      rw [if_neg h4] at hX2
      rw [hX2] at p1b v8 hJc
      replace p1b := hid p1b
      replace v8 := hid v8
      replace hX2 := hid hX2
      replace h4 := hid h4
      replace hx := hid hx
      go_wp2_with (first
        | (refine wpList_store_row rfl 29 (.tmp 10) (.tmp 43) rfl w6.heap.size (jc ⟨j.id, j.arr, j.idx, j.s.re x1 y1, j.st, j.sub, j.beg, j.fin, j.on, 0⟩).toArray rfl rfl 29 _ (heap_alloc_new w6 _) (by kernel_rfl) rfl (jc_all _) ?_; rw [alloc_setRow]; simp only [jc, Job.re, Spc.re])
        | (refine wpList_load_row rfl 29 (.tmp 10) rfl w6.heap.size rfl 29 _ (0, 0) _ v8.out Try.underlying29 rfl (by kernel_rfl) ?_)
        | (refine wpList_store_row rfl 29 (.tmp 8) (.tmp 55) rfl (w.heap.size + 1) (jc J).toArray rfl (by rw [hJc.out]; rfl) 29 _ p1b.out (by kernel_rfl) rfl (jc_all _) ?_))
      (try simp only [Exit.inBlock, Exit.then])
      rw [← hJc.out]
      refine bodyPost_ret (results_cell_tmp rfl _ _ (w.heap.size + 1) 29 (jc J).toArray (0, 0) _ rfl v1.out Try.underlying29 (by kernel_rfl)) rfl ?_
      exact ⟨.inl ⟨hq.out, x1, y1, by rw [hJ.out]; rfl, hy, o3.out⟩, D8.out⟩

theorem rfinish_any (j : Job) (st x now : Int) (D : List Dp) (w : World) (h0 : 0 ≤ j.on) (h1 : j.on < 4294967296) (hD : D.length = j.s.dn) (hl : j.s.dn * 16 ≤ 140737488355328) (hat : DAt w j.s.da D) :
    Calls Try.prog 10 #[.agg (jc j).toArray, .int .u8 st, .int .i64 x, .int .i64 now] w fun e w' => BT (w.heap.size + 1 + 1) (finE j st now) (fini j st x now) D e w' ∧ Below w.heap.size w w' := by
  cases hr : rightB j with
  | false => exact rf_A j st x now D w h0 h1 hD hl hat hr _ (by unfold finE; rw [if_neg (fun h => by rw [hr] at h; cases h.1)])
  | true =>
    have ho : ord3 (sinceP j) now MT = true ↔ sinceP j ≤ now ∧ now ≤ MT := by unfold ord3; simp only [Bool.and_eq_true, decide_eq_true_eq]
    have hf := ((right_is j).1 hr).2
    have hno : ¬ (sinceP j ≤ now ∧ now ≤ MT) → finE j st now = 2 := fun h => by unfold finE; rw [if_neg (fun k => h (ho.1 k.2))]
    have hyes : sinceP j ≤ now ∧ now ≤ MT → finE j st now = (if overB st = true ∧ folB j.st st = true then 0 else 180) := fun h => by unfold finE; rw [if_pos ⟨hr, ho.2 h⟩]
    by_cases s2 : j.st = 2
    · have hs : sinceP j = j.beg := by unfold sinceP; rw [if_pos s2]
      have hsb := (fit_two hf s2).2.1
      rw [hs] at hno hyes
      simp only [MT] at hno hyes
      by_cases lo : now < j.sub
      · exact rf_B1 j st x now D w h0 h1 hD hl hat hr lo _ (hno (by omega))
      · by_cases lb : now < j.beg
        · exact rf_B2 j st x now D w h0 h1 hD hl hat hr lo s2 lb _ (hno (by omega))
        · by_cases hi : 1099511627776 < now
          · exact rf_B3 j st x now D w h0 h1 hD hl hat hr lo s2 lb hi _ (hno (by omega))
          · exact rf_C1 j st x now D w h0 h1 hD hl hat hr lo s2 lb hi _ (hyes (by omega))
    · have hs : sinceP j = j.sub := by unfold sinceP; rw [if_neg s2]
      rw [hs] at hno hyes
      simp only [MT] at hno hyes
      by_cases lo : now < j.sub
      · exact rf_B1 j st x now D w h0 h1 hD hl hat hr lo _ (hno (by omega))
      · by_cases hi : 1099511627776 < now
        · exact rf_B4 j st x now D w h0 h1 hD hl hat hr lo s2 hi _ (hno (by omega))
        · exact rf_C2 j st x now D w h0 h1 hD hl hat hr lo s2 hi _ (hyes (by omega))

end Go.Proofs.Ytlhmlfinflodaaa
