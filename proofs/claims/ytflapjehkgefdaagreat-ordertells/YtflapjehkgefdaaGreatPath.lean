/- The place of an account in a right tree; its path. -/
import Derived.Test.YtflapjehkgefdaaGreatRight
namespace Go.Proofs.YtflapjehkgefdaaGreat
open Go.RowKit

/-- Which error a name has in a list. -/
def errP (L : List Acc) (n : ByteArray) : Int := if rightB L = true then (if (fi L n).isSome = true then 0 else 141) else 2
def placeP (L : List Acc) (n : ByteArray) : Int := if rightB L = true then (match fi L n with | none => 0 | some i => (i : Int)) else 0

theorem err_ok {L : List Acc} {n : ByteArray} (h : errP L n = 0) : rightB L = true ∧ ∃ i, fi L n = some i := by
  unfold errP at h
  by_cases h1 : rightB L = true
  · rw [if_pos h1] at h
    refine ⟨h1, ?_⟩
    cases e : fi L n with
    | none => rw [e] at h; simp at h
    | some i => exact ⟨i, rfl⟩
  · rw [if_neg h1] at h; omega
theorem err_of {L : List Acc} {n : ByteArray} {i : Nat} (h : rightB L = true) (hi : fi L n = some i) : errP L n = 0 := by unfold errP; rw [if_pos h, hi]; rfl
theorem err_no {L : List Acc} {n : ByteArray} (h : rightB L = true) (hi : fi L n = none) : errP L n = 141 := by unfold errP; rw [if_pos h, hi]; rfl
theorem err_arg {L : List Acc} {n : ByteArray} (h : rightB L = false) : errP L n = 2 := by unfold errP; rw [h]; rfl
theorem place_of {L : List Acc} {n : ByteArray} {i : Nat} (h : rightB L = true) (hi : fi L n = some i) : placeP L n = (i : Int) := by unfold placeP; rw [if_pos h, hi]

/-- A list of texts and an error, as an answer. -/
def TTold (T : List ByteArray) (E : Int) (w : World) (e : Ending) (w' : World) : Prop :=
  ∃ a c, e = .returned (.tuple #[.slice a T.length c, .int .i64 E]) ∧ T.length ≤ c ∧ TOwn w' w.heap.size (.slice a T.length c) T ∧ Below w.heap.size w w'

theorem TTold.none {E : Int} {w w' : World} (h : Below w.heap.size w w') : TTold [] E w (.returned (.tuple #[.slice Option.none 0 0, .int .i64 E])) w' := ⟨Option.none, 0, rfl, Nat.le_refl _, TOwn.nil _ _, h⟩

/-- A list of texts alone. -/
def TTold1 (T : List ByteArray) (w : World) (e : Ending) (w' : World) : Prop :=
  ∃ a c, e = .returned (.slice a T.length c) ∧ T.length ≤ c ∧ TOwn w' w.heap.size (.slice a T.length c) T ∧ Below w.heap.size w w'

theorem TOwn.form {w : World} {base : Nat} {v : Value} {T : List ByteArray} (h : TOwn w base v T) : ∃ a c, v = .slice a T.length c ∧ T.length ≤ c := owns_form h

def boolOf : Value → Bool
  | .bool b => b
  | _ => false

end Go.Proofs.YtflapjehkgefdaaGreat
