/- Armed, Failing, New, Durable, Read, Crash and Sync of the document's disk. -/
import Derived.Test.YtpngnmogjmdmhaaRefRow
import Derived.Test.YtpngnmogjmdmhaaRefNow
import Derived.Test.YtpngnmogjmdmhaaCrash
namespace Go.Proofs.Ytpngnmogjmdmhaa
open Go.RowKit
set_option linter.unusedVariables false

theorem info40c {x : RDx} {d : Dsk} : (Try.prog.info? 40).map (·.size) = some (x.cells d).size := info40
theorem RD.like {W : World} {T : Nat → Prop} {x : RDx} {d d' : Dsk} (h : RD W T x d) (hd : d'.dur = d.dur) (ho : d'.ops = d.ops) : RD W T x d' :=
  ⟨fun i hi => by rw [hd]; exact h.file i hi, by rw [ho]; exact h.ops, h.cat, h.offc, h.capc, h.data⟩

set_option maxRecDepth 100000 in
set_option maxHeartbeats 1000000 in
theorem rarmed_any (x : RDx) (d : Dsk) (n : Int) (w : World) :
    Calls Try.prog 47 #[.agg (x.cells d), .int .i64 n] w fun e w' => e = .returned (.tuple #[.agg (x.cells (d.armD n)), .int .i64 (Dsk.armE n)]) ∧ Below w.heap.size w w' := by
  have b1 := below_lit w (.cells (x.cells d) 40)
  have b2 := below_lit (w.alloc (.cells (x.cells d) 40)) (.cells #[.slice none 0 0, .slice none 0 0, .slice none 0 0, .slice none 0 0, .bool false, .int .i64 0, .int .i64 0, .int .i64 0] 40)
  have bl := bnext b1 b2
  have r0 : ((w.alloc (.cells (x.cells d) 40)).alloc (.cells #[.slice none 0 0, .slice none 0 0, .slice none 0 0, .slice none 0 0, .bool false, .int .i64 0, .int .i64 0, .int .i64 0] 40)).heap[w.heap.size]? = some (.cells (x.cells d) 40 (0, 0)) := row_b (heap_alloc_new w _) b2
  have r1 : ((w.alloc (.cells (x.cells d) 40)).alloc (.cells #[.slice none 0 0, .slice none 0 0, .slice none 0 0, .slice none 0 0, .bool false, .int .i64 0, .int .i64 0, .int .i64 0] 40)).heap[w.heap.size + 1]? = some (.cells #[.slice none 0 0, .slice none 0 0, .slice none 0 0, .slice none 0 0, .bool false, .int .i64 0, .int .i64 0, .int .i64 0] 40 (0, 0)) := by rw [← size_lit w (.cells (x.cells d) 40)]; exact heap_alloc_new _ _
  clear b1 b2
  by_cases h : n < 0
  · have e1 : d.armD n = d := by unfold Dsk.armD; rw [if_pos h]
    have e2 : Dsk.armE n = 2 := by unfold Dsk.armE; rw [if_pos h]
    rw [e1, e2]
    clear e1 e2
    replace r0 := hid r0
    replace r1 := hid r1
    go_enter Try.func47, Try.ntmps47
    go_wp2_with (first
      | (refine wpList_load_row rfl 40 (.tmp 2) rfl w.heap.size rfl 40 (x.cells d) (0, 0) _ r0.out Try.underlying40 rfl info40c ?_)
      | (refine wpList_store_row rfl 40 (.tmp 4) (.tmp 8) rfl (w.heap.size + 1) (x.cells d) rfl rfl 40 _ r1.out info40c rfl (cells_all _ _) ?_))
    (try simp only [Exit.inBlock, Exit.then])
    refine bodyPost_ret (results_row_tmp rfl _ _ (w.heap.size + 1) _ _ rfl (setRow_heap _ _ _ _ _ _ r1.out) rfl rfl) rfl ?_
    exact ⟨rfl, below_setRow bl (by omega) _⟩
  · have e1 : d.armD n = { d with arm := n } := by unfold Dsk.armD; rw [if_neg h]
    have e2 : Dsk.armE n = 0 := by unfold Dsk.armE; rw [if_neg h]
    rw [e1, e2]
    clear e1 e2
    obtain ⟨W0, hW0⟩ : ∃ W0, W0 = ((w.alloc (.cells (x.cells d) 40)).alloc (.cells #[.slice none 0 0, .slice none 0 0, .slice none 0 0, .slice none 0 0, .bool false, .int .i64 0, .int .i64 0, .int .i64 0] 40)) := ⟨_, rfl⟩
    rw [← hW0] at r0 r1 bl
    have f5 := row_free r0 5
    have y5 := row_cell r0 5 (.int .i64 d.arm) rfl
    have u0 : (W0.setCell ⟨w.heap.size, 5, none⟩ (.int .i64 n)).heap[w.heap.size]? = some (.cells (x.cells { d with arm := n }) 40 (0, 0)) := set40 r0 5 _
    have u1 : (W0.setCell ⟨w.heap.size, 5, none⟩ (.int .i64 n)).heap[w.heap.size + 1]? = some (.cells #[.slice none 0 0, .slice none 0 0, .slice none 0 0, .slice none 0 0, .bool false, .int .i64 0, .int .i64 0, .int .i64 0] 40 (0, 0)) := set_off r1 (by omega) _ _
    have bs := Below.setCell bl (p := ⟨w.heap.size, 5, none⟩) (Nat.le_refl _) (.int .i64 n)
    replace r0 := hid r0
    replace r1 := hid r1
    replace u0 := hid u0
    replace u1 := hid u1
    go_enter Try.func47, Try.ntmps47
    go_upto_region 3 with fail
    rw [← hW0]
    replace hW0 := hid hW0
    go_wp2_with (first
      | (refine wpList_load_row rfl 40 (.tmp 2) rfl w.heap.size rfl 40 (x.cells { d with arm := n }) (0, 0) _ u0.out Try.underlying40 rfl info40c ?_)
      | (refine wpList_store_row rfl 40 (.tmp 4) (.tmp 11) rfl (w.heap.size + 1) (x.cells { d with arm := n }) rfl rfl 40 _ u1.out info40c rfl (cells_all _ _) ?_))
    (try simp only [Exit.inBlock, Exit.then])
    refine bodyPost_ret (results_row_tmp rfl _ _ (w.heap.size + 1) _ _ rfl (setRow_heap _ _ _ _ _ _ u1.out) rfl rfl) rfl ?_
    exact ⟨rfl, below_setRow bs (by omega) _⟩

set_option maxRecDepth 100000 in
set_option maxHeartbeats 1000000 in
theorem rfailing_any (x : RDx) (d : Dsk) (n ec : Int) (w : World) :
    Calls Try.prog 48 #[.agg (x.cells d), .int .i64 n, .int .i64 ec] w fun e w' => e = .returned (.tuple #[.agg (x.cells (d.failD n ec)), .int .i64 (Dsk.failE n ec)]) ∧ Below w.heap.size w w' := by
  have b1 := below_lit w (.cells (x.cells d) 40)
  have b2 := below_lit (w.alloc (.cells (x.cells d) 40)) (.cells #[.slice none 0 0, .slice none 0 0, .slice none 0 0, .slice none 0 0, .bool false, .int .i64 0, .int .i64 0, .int .i64 0] 40)
  have bl := bnext b1 b2
  have r0 : ((w.alloc (.cells (x.cells d) 40)).alloc (.cells #[.slice none 0 0, .slice none 0 0, .slice none 0 0, .slice none 0 0, .bool false, .int .i64 0, .int .i64 0, .int .i64 0] 40)).heap[w.heap.size]? = some (.cells (x.cells d) 40 (0, 0)) := row_b (heap_alloc_new w _) b2
  have r1 : ((w.alloc (.cells (x.cells d) 40)).alloc (.cells #[.slice none 0 0, .slice none 0 0, .slice none 0 0, .slice none 0 0, .bool false, .int .i64 0, .int .i64 0, .int .i64 0] 40)).heap[w.heap.size + 1]? = some (.cells #[.slice none 0 0, .slice none 0 0, .slice none 0 0, .slice none 0 0, .bool false, .int .i64 0, .int .i64 0, .int .i64 0] 40 (0, 0)) := by rw [← size_lit w (.cells (x.cells d) 40)]; exact heap_alloc_new _ _
  clear b1 b2
  by_cases h : n < 0
  · have e1 : d.failD n ec = d := by unfold Dsk.failD; rw [if_pos (.inl h)]
    have e2 : Dsk.failE n ec = 2 := by unfold Dsk.failE; rw [if_pos (.inl h)]
    rw [e1, e2]
    clear e1 e2
    have dn : decide (n < 0) = true := decide_eq_true h
    replace r0 := hid r0
    replace r1 := hid r1
    go_enter Try.func48, Try.ntmps48
    go_wp2_with (first
      | (refine wpList_load_row rfl 40 (.tmp 3) rfl w.heap.size rfl 40 (x.cells d) (0, 0) _ r0.out Try.underlying40 rfl info40c ?_)
      | (refine wpList_store_row rfl 40 (.tmp 6) (.tmp 18) rfl (w.heap.size + 1) (x.cells d) rfl rfl 40 _ r1.out info40c rfl (cells_all _ _) ?_))
    (try simp only [Exit.inBlock, Exit.then])
    refine bodyPost_ret (results_row_tmp rfl _ _ (w.heap.size + 1) _ _ rfl (setRow_heap _ _ _ _ _ _ r1.out) rfl rfl) rfl ?_
    exact ⟨rfl, below_setRow bl (by omega) _⟩
  have dn : decide (n < 0) = false := decide_eq_false h
  by_cases h4 : ec ≠ 4 ∧ ec ≠ 5
  · have e1 : d.failD n ec = d := by unfold Dsk.failD; rw [if_pos (.inr h4)]
    have e2 : Dsk.failE n ec = 2 := by unfold Dsk.failE; rw [if_pos (.inr h4)]
    rw [e1, e2]
    clear e1 e2
    have d4 : (ec != 4) = true := by simpa using h4.1
    have d5 : (ec != 5) = true := by simpa using h4.2
    replace h4 := hid h4
    replace r0 := hid r0
    replace r1 := hid r1
    go_enter Try.func48, Try.ntmps48
    go_wp2_with (first
      | (refine wpList_load_row rfl 40 (.tmp 3) rfl w.heap.size rfl 40 (x.cells d) (0, 0) _ r0.out Try.underlying40 rfl info40c ?_)
      | (refine wpList_store_row rfl 40 (.tmp 6) (.tmp 18) rfl (w.heap.size + 1) (x.cells d) rfl rfl 40 _ r1.out info40c rfl (cells_all _ _) ?_))
    (try simp only [Exit.inBlock, Exit.then])
    refine bodyPost_ret (results_row_tmp rfl _ _ (w.heap.size + 1) _ _ rfl (setRow_heap _ _ _ _ _ _ r1.out) rfl rfl) rfl ?_
    exact ⟨rfl, below_setRow bl (by omega) _⟩
  · have e1 : d.failD n ec = { d with fail := n, fault := ec } := by unfold Dsk.failD; rw [if_neg (fun h9 => h9.elim h h4)]
    have e2 : Dsk.failE n ec = 0 := by unfold Dsk.failE; rw [if_neg (fun h9 => h9.elim h h4)]
    rw [e1, e2]
    clear e1 e2
    obtain ⟨W0, hW0⟩ : ∃ W0, W0 = ((w.alloc (.cells (x.cells d) 40)).alloc (.cells #[.slice none 0 0, .slice none 0 0, .slice none 0 0, .slice none 0 0, .bool false, .int .i64 0, .int .i64 0, .int .i64 0] 40)) := ⟨_, rfl⟩
    rw [← hW0] at r0 r1 bl
    have f6 := row_free r0 6
    have y6 := row_cell r0 6 (.int .i64 d.fail) rfl
    have f7 := row_free r0 7
    have y7 := row_cell r0 7 (.int .i64 d.fault) rfl
    have u0 : ((W0.setCell ⟨w.heap.size, 6, none⟩ (.int .i64 n)).setCell ⟨w.heap.size, 7, none⟩ (.int .i64 ec)).heap[w.heap.size]? = some (.cells (x.cells { d with fail := n, fault := ec }) 40 (0, 0)) := set40 (set40 r0 6 _) 7 _
    have u1 : ((W0.setCell ⟨w.heap.size, 6, none⟩ (.int .i64 n)).setCell ⟨w.heap.size, 7, none⟩ (.int .i64 ec)).heap[w.heap.size + 1]? = some (.cells #[.slice none 0 0, .slice none 0 0, .slice none 0 0, .slice none 0 0, .bool false, .int .i64 0, .int .i64 0, .int .i64 0] 40 (0, 0)) := set_off (set_off r1 (by omega) _ _) (by omega) _ _
    have bs := Below.setCell (Below.setCell bl (p := ⟨w.heap.size, 6, none⟩) (Nat.le_refl _) (.int .i64 n)) (p := ⟨w.heap.size, 7, none⟩) (Nat.le_refl _) (.int .i64 ec)
    replace r0 := hid r0
    replace r1 := hid r1
    replace u0 := hid u0
    replace u1 := hid u1
    rcases (show ec = 4 ∨ ec = 5 by omega) with rfl | rfl
    · clear h4
      go_enter Try.func48, Try.ntmps48
      go_upto_region 3 with fail
      rw [← hW0]
      replace hW0 := hid hW0
      go_wp2_with (first
        | (refine wpList_load_row rfl 40 (.tmp 3) rfl w.heap.size rfl 40 (x.cells { d with fail := n, fault := _ }) (0, 0) _ u0.out Try.underlying40 rfl info40c ?_)
        | (refine wpList_store_row rfl 40 (.tmp 6) (.tmp 23) rfl (w.heap.size + 1) (x.cells { d with fail := n, fault := _ }) rfl rfl 40 _ u1.out info40c rfl (cells_all _ _) ?_))
      (try simp only [Exit.inBlock, Exit.then])
      refine bodyPost_ret (results_row_tmp rfl _ _ (w.heap.size + 1) _ _ rfl (setRow_heap _ _ _ _ _ _ u1.out) rfl rfl) rfl ?_
      exact ⟨rfl, below_setRow bs (by omega) _⟩
    · clear h4
      go_enter Try.func48, Try.ntmps48
      go_upto_region 3 with fail
      rw [← hW0]
      replace hW0 := hid hW0
      go_wp2_with (first
        | (refine wpList_load_row rfl 40 (.tmp 3) rfl w.heap.size rfl 40 (x.cells { d with fail := n, fault := _ }) (0, 0) _ u0.out Try.underlying40 rfl info40c ?_)
        | (refine wpList_store_row rfl 40 (.tmp 6) (.tmp 23) rfl (w.heap.size + 1) (x.cells { d with fail := n, fault := _ }) rfl rfl 40 _ u1.out info40c rfl (cells_all _ _) ?_))
      (try simp only [Exit.inBlock, Exit.then])
      refine bodyPost_ret (results_row_tmp rfl _ _ (w.heap.size + 1) _ _ rfl (setRow_heap _ _ _ _ _ _ u1.out) rfl rfl) rfl ?_
      exact ⟨rfl, below_setRow bs (by omega) _⟩

def rx0 : RDx := ⟨fun _ => none, fun _ => 0, none, 0, []⟩
set_option maxRecDepth 100000 in
theorem rnew_any (w : World) : Calls Try.prog 21 #[] w fun e w' => e = .returned (.agg (rx0.cells Dsk.new)) ∧ Below w.heap.size w w' := by
  have hg := heap_alloc_new w (.cells (rx0.cells Dsk.new) 40)
  have bl := below_lit w (.cells (rx0.cells Dsk.new) 40)
  replace hg := hid hg
  go_enter Try.func21, Try.ntmps21
  go_wp2
  refine bodyPost_ret (results_cell_row rfl _ _ w.heap.size 40 (rx0.cells Dsk.new) (0, 0) _ rfl hg.out Try.underlying40 rfl info40c) rfl ?_
  exact ⟨rfl, bl⟩
theorem RD.new (W : World) (T : Nat → Prop) : RD W T rx0 Dsk.new := ⟨fun i _ => FA.nil _ _ _ _, rfl, CAt.nil _ _, fun h => absurd rfl h, Nat.le_refl _, fun i h => by cases h⟩

theorem cell_fv {w : World} {g : Nat} {x : RDx} {d : Dsk} (h : w.heap[g]? = some (.cells (x.cells d) 40 (0, 0))) (i : Nat) (hi : i < 3) : w.cell? ⟨g, i, none⟩ = some (x.fv d i) := by
  match i, hi with
  | 0, _ => exact row_cell h 0 _ rfl
  | 1, _ => exact row_cell h 1 _ rfl
  | 2, _ => exact row_cell h 2 _ rfl

end Go.Proofs.Ytpngnmogjmdmhaa
