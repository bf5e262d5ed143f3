/- The document's Right. -/
import Derived.Test.YtphkdjacladcpaaJs
namespace Go.Proofs.Ytphkdjacladcpaa
open Go.RowKit
set_option linter.unusedVariables false
set_option linter.unusedSimpArgs false

theorem lst_cnt (s : Nat) : (Nd.L2 (Nd.lst s)).length = Nd.cnt s := by simp [Nd.L2, Nd.cnt]
def RightAll (j : Job) : Prop := 1 ≤ j.id ∧ j.id ≤ 1073741824 ∧ 0 ≤ j.arr ∧ j.arr ≤ j.id ∧ 0 ≤ j.idx ∧ 1 ≤ j.s.nodes ∧ j.s.nodes ≤ 32 ∧ 1 ≤ j.s.cores ∧ j.s.cores ≤ 64 ∧ 1 ≤ j.s.lim ∧ j.s.lim ≤ 1048576 ∧ 0 ≤ j.sub ∧ j.sub ≤ MT
theorem right_is (j : Job) : rightB j = true ↔ RightAll j ∧ fitB j = true := by
  unfold rightB askB ord3 RightAll
  simp only [Bool.and_eq_true, decide_eq_true_eq]
  constructor
  · rintro ⟨⟨⟨⟨⟨⟨⟨a, b⟩, c⟩, d⟩, e⟩, ⟨⟨⟨⟨⟨f, g⟩, h⟩, i⟩, k⟩, l⟩⟩, ⟨m, n⟩⟩, o⟩
    exact ⟨⟨a, b, c, d, e, f, g, h, i, k, l, m, n⟩, o⟩
  · rintro ⟨⟨a, b, c, d, e, f, g, h, i, k, l, m, n⟩, o⟩
    exact ⟨⟨⟨⟨⟨⟨⟨a, b⟩, c⟩, d⟩, e⟩, ⟨⟨⟨⟨⟨f, g⟩, h⟩, i⟩, k⟩, l⟩⟩, ⟨m, n⟩⟩, o⟩
theorem right_all (j : Job) (h : RightAll j) : rightB j = fitB j := by
  rw [Bool.eq_iff_iff, right_is]
  exact ⟨fun k => k.2, fun k => ⟨h, k⟩⟩
theorem right_notall (j : Job) (h : ¬ RightAll j) : rightB j = false := by
  rw [Bool.eq_false_iff]
  intro hb
  exact h ((right_is j).1 hb).1
theorem sc_cell (s : Spc) (w : World) (g : Nat) (h : w.heap[g]? = some (.cells (sc s).toArray 37 (0, 0))) (r : Nat) (v : Value) (hv : (sc s)[r]? = some v) : w.cell? ⟨g, r, none⟩ = some v := row_cell h r v (by simpa using hv)

end Go.Proofs.Ytphkdjacladcpaa
