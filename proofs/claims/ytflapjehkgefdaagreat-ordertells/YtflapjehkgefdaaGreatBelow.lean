/- The accounts below one; a list with another limit of one account. -/
import Derived.Test.YtflapjehkgefdaaGreatTexts
namespace Go.Proofs.YtflapjehkgefdaaGreat
open Go.RowKit

/-- Those of the first j accounts that are below n. -/
def belTo (L : List Acc) (n : ByteArray) (j : Nat) : List ByteArray := ((L.take j).map (·.1)).filter fun m => hasB (pathP L m) n

theorem belTo_zero (L : List Acc) (n : ByteArray) : belTo L n 0 = [] := by simp [belTo]
theorem belTo_all (L : List Acc) (n : ByteArray) : belTo L n L.length = belowP L n := by simp [belTo, belowP]
theorem belTo_len (L : List Acc) (n : ByteArray) (j : Nat) : (belTo L n j).length ≤ j := by
  unfold belTo
  refine Nat.le_trans (List.length_filter_le _ _) ?_
  rw [List.length_map, List.length_take]; omega
theorem belTo_yes {L : List Acc} {n : ByteArray} {j : Nat} (hj : j < L.length) (h : hasB (pathP L (accAt L j).1) n = true) : belTo L n (j + 1) = belTo L n j ++ [(accAt L j).1] := by
  unfold belTo
  rw [take_more hj, List.map_append, List.filter_append, accAt_eq hj, List.map_cons, List.map_nil, List.filter_cons_of_pos (p := fun m => hasB (pathP L m) n) h, List.filter_nil]
theorem belTo_no {L : List Acc} {n : ByteArray} {j : Nat} (hj : j < L.length) (h : hasB (pathP L (accAt L j).1) n = false) : belTo L n (j + 1) = belTo L n j := by
  unfold belTo
  rw [take_more hj, List.map_append, List.filter_append, accAt_eq hj, List.map_cons, List.map_nil, List.filter_cons_of_neg (p := fun m => hasB (pathP L m) n) (by rw [h]; simp), List.filter_nil, List.append_nil]

/-- A list of accounts and an error, as an answer. -/
def ATold (M : List Acc) (E : Int) (w : World) (e : Ending) (w' : World) : Prop :=
  ∃ a c, e = .returned (.tuple #[.slice a M.length c, .int .i64 E]) ∧ M.length ≤ c ∧ AOwn w' w.heap.size (.slice a M.length c) M ∧ Below w.heap.size w w'

theorem ATold.none {E : Int} {w w' : World} (h : Below w.heap.size w w') : ATold [] E w (.returned (.tuple #[.slice Option.none 0 0, .int .i64 E])) w' := ⟨Option.none, 0, rfl, Nat.le_refl _, AOwn.nil _ _, h⟩

/-- The list with that limit of the account of that name. -/
def limP (L : List Acc) (n : ByteArray) (x : Int) : List Acc :=
  match fi L n with
  | none => L
  | some i => L.set i ((accAt L i).1, (accAt L i).2.1, x)

def lerrP (L : List Acc) (n : ByteArray) (x : Int) : Int := if limB x = true then errP L n else 2

theorem lim_len (L : List Acc) (n : ByteArray) (x : Int) : (limP L n x).length = L.length := by
  unfold limP; split <;> simp

end Go.Proofs.YtflapjehkgefdaaGreat
