/- The document's Path, Below and Limit; CopyAccounts, SameAccounts. -/
import Derived.Test.YtflapjehkgefdaaGreatRef2
namespace Go.Proofs.YtflapjehkgefdaaGreat
open Go.RowKit

theorem own_one (w : World) (n : ByteArray) : TOwn (w.alloc (.cells #[.string n] 9)) w.heap.size (.slice (some ⟨w.heap.size, 0, none⟩) 1 1) [n] :=
  ⟨rfl, .inr ⟨w.heap.size, 1, #[.string n], rfl, Nat.le_refl _, heap_alloc_new _ _, Nat.le_refl _, by unfold maxLen; omega, rfl, rfl⟩⟩

/-- A parent that is named is there. -/
theorem right_find {L : List Acc} (hR : rightB L = true) {i : Nat} (hi : i < L.length) (h : ¬ (accAt L i).2.1 = ByteArray.empty) : ∃ j, fi L (accAt L i).2.1 = some j ∧ j < i := by
  cases e : fi L (accAt L i).2.1 with
  | none => exact absurd (right_root hR hi e) h
  | some j => exact ⟨j, rfl, right_up hR hi e⟩

theorem empty_no {s : ByteArray} (h : ¬ s = ByteArray.empty) : ¬ s.toList = [] := by
  have := text_ne h
  simpa using this
theorem empty_is {s : ByteArray} (h : s = ByteArray.empty) : s.toList = [] := by
  have := text_eq h
  simpa using this

end Go.Proofs.YtflapjehkgefdaaGreat
