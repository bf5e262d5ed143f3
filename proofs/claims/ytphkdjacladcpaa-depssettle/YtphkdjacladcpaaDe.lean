/- Dependencies: which ends each kind is for. -/
import Derived.Test.YtphkdjacladcpaaCp2
namespace Go.Proofs.Ytphkdjacladcpaa
open Go.RowKit
set_option linter.unusedVariables false
set_option linter.unusedSimpArgs false

def compB (k : Int) : Bool := decide (k = 1) || decide (k = 2)
def othB (k : Int) : Bool := decide (k = 1) || decide (k = 3)
def kindB (k : Int) : Bool := decide (1 ≤ k) && decide (k ≤ 3)
theorem kind_iff (k : Int) : kindB k = (compB k || othB k) := by
  rw [Bool.eq_iff_iff]
  unfold kindB compB othB
  simp only [Bool.or_eq_true, Bool.and_eq_true, decide_eq_true_eq]
  omega

theorem fst_row (w : World) (c d : Array Value) : ((w.alloc (.cells c 71)).alloc (.cells d 71)).heap[w.heap.size]? = some (.cells c 71 (0, 0)) := by
  rw [(below_lit (w.alloc (.cells c 71)) (.cells d 71)).block _ (by rw [size_lit]; omega)]
  exact heap_alloc_new w _

set_option maxRecDepth 100000 in
theorem ends_any (k : Int) (w : World) : Calls Try.prog 38 #[.int .u8 k] w fun e w' => e = .returned (.agg #[.bool (compB k), .bool (othB k)]) ∧ Below w.heap.size w w' := by
  go_enter Try.func38, Try.ntmps38
  go_wp2_with fail
  all_goals
    refine bodyPost_ret (results_cell_row rfl _ _ w.heap.size 71 _ (0, 0) _ rfl (fst_row _ _ _) Try.underlying71 rfl (by kernel_rfl)) rfl ⟨?_, bnext (below_lit _ _) (below_lit _ _)⟩
    unfold compB othB
    simp_all

set_option maxRecDepth 100000 in
theorem iskind_any (k : Int) (w : World) : Calls Try.prog 21 #[.int .u8 k] w fun e w' => e = .returned (.bool (kindB k)) ∧ Below w.heap.size w w' := by
  have kE := ends_any k w
  rw [kind_iff]
  generalize compB k = A at *
  generalize othB k = B at *
  cases A <;> cases B
  all_goals
    go_enter Try.func21, Try.ntmps21
    go_wp2_with fail
    refine kE.mono ?_
    rintro e w1 ⟨rfl, hb1⟩
    go_wp2_with fail
    go_ret
    exact ⟨rfl, hb1⟩

end Go.Proofs.Ytphkdjacladcpaa
