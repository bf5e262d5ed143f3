/- The document's side: those that are up, the cores of each, those that have cores enough. -/
import Derived.Test.YtflapjehkgefdaaNdNr
import Derived.Test.YtflapjehkgefdaaNdGather
namespace Go.Proofs.Ytflapjehkgefdaa.Nd
open Go.RowKit

/-- The numbers below k of which b holds. -/
def pk (b : Nat → Bool) (k : Nat) : List Int := L2 ((List.range k).filter b)

theorem pk_yes {b : Nat → Bool} {k : Nat} (h : b k = true) : pk b (k + 1) = pk b k ++ [(k : Int)] := by
  unfold pk L2
  rw [List.range_succ, List.filter_append, List.filter_cons_of_pos h, List.filter_nil, List.map_append]
  rfl
theorem pk_no {b : Nat → Bool} {k : Nat} (h : b k = false) : pk b (k + 1) = pk b k := by
  unfold pk
  rw [List.range_succ, List.filter_append, List.filter_cons_of_neg (by rw [h]; simp), List.filter_nil, List.append_nil]
theorem pk_len (b : Nat → Bool) (k : Nat) : (pk b k).length ≤ k := by
  unfold pk L2
  rw [List.length_map]
  have := (List.filter_sublist (p := b) (l := List.range k)).length_le
  simpa using this

theorem of_pk {b : Nat → Bool} {k : Nat} (hk : k ≤ 32) : ofP (pk b k) = (gs b k, 0) := by
  have h1 : OkTo (pk b k) (pk b k).length := by
    intro n hn
    rw [List.take_length] at hn
    obtain ⟨x, hx, rfl⟩ := List.mem_map.1 hn
    have := (List.mem_filter.1 hx).1
    rw [List.mem_range] at this
    constructor
    · exact Int.natCast_nonneg x
    · show (x : Int) < 32; omega
  rw [ofP_ok h1]
  unfold gs pk L2
  rw [List.map_map]
  congr 2
  conv => rhs; rw [← List.map_id ((List.range k).filter b)]
  apply List.map_congr_left
  intro x _
  rfl

/-- What the program and the document say of nodes that have cores enough is one. -/
theorem able_same (L : List Nod) (s : Nat) (c : Int) : gs (fun i => s.testBit i && coB L c i) (min L.length 32) = ableP L s c := by
  apply Nat.eq_of_testBit_eq
  intro i
  unfold ableP
  rw [Nat.testBit_and, gs_bit, gs_bit]
  cases s.testBit i <;> simp

end Go.Proofs.Ytflapjehkgefdaa.Nd
