/- job's Right, End. -/
import Derived.Test.YtomdghodbkhkaaaGreatDoorJr
namespace Go.Proofs.YtomdghodbkhkaaaGreatDoor
open Go.RowKit
set_option linter.unusedVariables false
set_option linter.unusedSimpArgs false

section
variable {ops : Array Oper} {rest : List Oper} {o : Oper} {a : Act} {w : World} {Q : Exit → Act → World → Prop}
/-- A guarded load of a whole struct. -/
theorem gload_row (j : Nat) (b : Bool) (d0 : Tmp) (hg : o.guard = some (j, b)) (hd0 : (ops[j]?).bind (·.dst) = some d0) (hv : a.tmps.getD d0 undef = .bool b) (ty : TypeId) (x : Operand) (ho : o.op = .load ty x)
    (g : Nat) (hx : a.eval x = .pointer (some ⟨g, 0, none⟩)) (t : TypeId) (cs : Array Value) (fr : Nat × Nat) (fs : Array Field) (hh : w.heap[g]? = some (.cells cs t fr))
    (hu : Tryz.prog.underlying ty = some (.struct fs)) (hi : (Tryz.prog.info? ty).map (·.size) = some cs.size)
    (h : wpList Tryz.prog ops Q rest (a.put o.dst (.agg cs)) w) : wpList Tryz.prog ops Q (o :: rest) a w :=
  BigFrame.wpList_want (want_g hg hd0 hv) fun _ hK => wp_load_row ty x ho g hx t cs fr _ hh hu rfl hi (hK _ _ h)
theorem gload_mid (j : Nat) (b : Bool) (d0 : Tmp) (hg : o.guard = some (j, b)) (hd0 : (ops[j]?).bind (·.dst) = some d0) (hv : a.tmps.getD d0 undef = .bool b) (ty : TypeId) (x : Operand) (ho : o.op = .load ty x)
    (g q : Nat) (hx : a.eval x = .pointer (some ⟨g, q, none⟩)) (cs : List Value) (d : TypeDesc) (hc : w.rangeAt g q cs)
    (hu : Tryz.prog.underlying ty = some d) (hd : d.isRow = true) (hi : (Tryz.prog.info? ty).map (·.size) = some cs.length)
    (h : wpList Tryz.prog ops Q rest (a.put o.dst (.agg cs.toArray)) w) : wpList Tryz.prog ops Q (o :: rest) a w :=
  BigFrame.wpList_want (want_g hg hd0 hv) fun _ hK => wp_load_mid ty x ho g q hx cs d hc hu hd hi (hK _ _ h)
end

theorem job_range {w : World} {g : Nat} {j : Job} (h : w.heap[g]? = some (.cells (jc j).toArray 46 (0, 0))) : w.rangeAt g 3 (sc j.s) := fun r v hv => row_cell h (3 + r) v (by
  have hr : r < 8 := by
    rcases Nat.lt_or_ge r 8 with h1 | h1
    · exact h1
    · rw [List.getElem?_eq_none (by rw [sc_len]; exact h1)] at hv; cases hv
  obtain rfl | rfl | rfl | rfl | rfl | rfl | rfl | rfl : r = 0 ∨ r = 1 ∨ r = 2 ∨ r = 3 ∨ r = 4 ∨ r = 5 ∨ r = 6 ∨ r = 7 := by omega
  all_goals exact hv)

def RightHead (j : Job) : Prop := 1 ≤ j.id ∧ j.id ≤ 1073741824 ∧ 0 ≤ j.arr ∧ j.arr ≤ j.id ∧ 0 ≤ j.idx
theorem right_head (j : Job) (h : RightHead j) : rightB j = (askB j.s && ord3 0 j.sub MT && fitB j) := by
  obtain ⟨h1, h2, h3, h4, h5⟩ := h
  unfold rightB
  simp only [h1, h2, h3, h4, h5, decide_true, Bool.true_and]
theorem right_nohead (j : Job) (h : ¬ RightHead j) : rightB j = false := by
  rw [Bool.eq_false_iff]
  intro hb
  unfold rightB at hb
  simp only [Bool.and_eq_true, decide_eq_true_eq] at hb
  exact h ⟨hb.1.1.1.1.1.1.1, hb.1.1.1.1.1.1.2, hb.1.1.1.1.1.2, hb.1.1.1.1.2, hb.1.1.1.2⟩

set_option maxRecDepth 100000 in
set_option maxHeartbeats 2000000 in
theorem right_any (j : Job) (w : World) (h0 : 0 ≤ j.on) (h1 : j.on < 4294967296) : Calls Tryz.prog 47 #[.agg (jc j).toArray] w fun e w' => e = .returned (.bool (rightB j)) ∧ Below w.heap.size w w' := by
  have kA := fun w => asked_any j.s w
  have kF := fun w => fits_any j w h0 h1
  have hrow : (w.alloc (.cells (jc j).toArray 46)).heap[w.heap.size]? = some (.cells (jc j).toArray 46 (0, 0)) := heap_alloc_new w (.cells (jc j).toArray 46)
  have hm := hid (job_range hrow)
  have hsz := size_lit w (.cells (jc j).toArray 46)
  replace hrow := hid hrow
  have bl := below_lit w (.cells (jc j).toArray 46)
  have v0 := lit_cell w 46 (jc j).toArray 0 (.int .i64 j.id) rfl
  have v1 := lit_cell w 46 (jc j).toArray 1 (.int .i64 j.arr) rfl
  have v2 := lit_cell w 46 (jc j).toArray 2 (.int .i64 j.idx) rfl
  have v12 := lit_cell w 46 (jc j).toArray 12 (.int .i64 j.sub) rfl
  have hlt := World.block_lt_of_cell? _ _ v0
  by_cases hc : RightHead j
  · have hq := hid (right_head j hc)
    obtain ⟨c1, c2, c3, c4, c5⟩ := hc
    generalize rightB j = R at *
    generalize askB j.s = A at *
    generalize fitB j = F at *
    go_enter Tryz.func47, Tryz.ntmps47
    go_wp2_with (refine gload_mid 25 true 28 rfl rfl rfl 34 (.tmp 29) rfl w.heap.size 3 rfl (sc j.s) _ hm.out Tryz.underlying34 rfl (by kernel_rfl) ?_)
    refine (kA _).mono ?_
    rintro e w1 ⟨rfl, hb1⟩
    have D1 := bnext bl hb1
    replace v12 := stay hb1 v12
    replace hlt := World.block_lt_of_cell? _ _ v12
    have q1 : w1.heap[w.heap.size]? = some (.cells (jc j).toArray 46 (0, 0)) := by rw [hb1.block _ (by omega)]; exact hrow.out
    have hs1 := hb1.size
    replace q1 := hid q1
    cases A with
    | false =>
      go_wp2
      go_ret
      exact ⟨ret_bool (by rw [hq.out]; rfl), D1⟩
    | true =>
      have bo := below_lit w1 (.cells #[.int .i64 0, .int .i64 j.sub, .int .i64 1099511627776] 2)
      have kT := order3 0 j.sub MT _ w1.heap.size (cat_lit w1 2 [.int .i64 0, .int .i64 j.sub, .int .i64 1099511627776] #[.int .i64 0, .int .i64 j.sub, .int .i64 1099511627776] rfl)
      generalize ord3 0 j.sub MT = T at *
      go_wp2_with fail
      refine kT.mono ?_
      rintro e w2 ⟨rfl, hb2⟩
      have D2 := bnext (bnext D1 bo) hb2
      have q2 : w2.heap[w.heap.size]? = some (.cells (jc j).toArray 46 (0, 0)) := by rw [(bnext bo hb2).block _ (by omega)]; exact q1.out
      replace q2 := hid q2
      cases T with
      | false =>
        go_wp2
        go_ret
        exact ⟨ret_bool (by rw [hq.out]; rfl), D2⟩
      | true =>
        go_wp2_with (refine gload_row 36 true 39 rfl rfl rfl 46 (.tmp 1) rfl w.heap.size rfl 46 (jc j).toArray (0, 0) _ q2.out Tryz.underlying46 (by kernel_rfl) ?_)
        refine (kF _).mono ?_
        rintro e w3 ⟨rfl, hb3⟩
        have D3 := bnext D2 hb3
        go_wp2
        go_ret
        exact ⟨ret_bool (by rw [hq.out]; rfl), D3⟩
  · have hq := hid (right_nohead j hc)
    generalize rightB j = R at *
    unfold RightHead at hc
    go_enter Tryz.func47, Tryz.ntmps47
    go_wp2_with fail
    all_goals (first | (exfalso; omega) | (go_ret; exact ⟨ret_bool hq.out.symm, bl⟩))

end Go.Proofs.YtomdghodbkhkaaaGreatDoor
