/- Which of the first 32 nodes a closure says yes of; those that are up; those that have cores enough. -/
import Derived.Test.YtflapjehkgefdaaGreatNdRight
namespace Go.Proofs.YtflapjehkgefdaaGreat.Nd
open Go.RowKit

abbrev ptr (g : Nat) : Value := .pointer (some ⟨g, 0, none⟩)

theorem pow_mod {n : Nat} (hn : n < 32) : (2 : Int) ^ n % 4294967296 = 2 ^ n := by
  have h := pow_lt32 hn
  have h2 : ((2 ^ n : Nat) : Int) = 2 ^ n := by push_cast; rfl
  rw [← h2]
  generalize 2 ^ n = x at h
  omega

/-- The nodes below k of which b holds. -/
def gs (b : Nat → Bool) (k : Nat) : Nat := ofN ((List.range k).filter b)

theorem gs_zero (b : Nat → Bool) : gs b 0 = 0 := by simp [gs, ofN]
theorem gs_succ (b : Nat → Bool) (k : Nat) : gs b (k + 1) = if b k then gs b k ||| 2 ^ k else gs b k := by
  unfold gs
  rw [List.range_succ, List.filter_append]
  by_cases h : b k = true
  · rw [if_pos h, List.filter_cons_of_pos h, List.filter_nil, ofN_append]
  · rw [if_neg h, List.filter_cons_of_neg h, List.filter_nil, List.append_nil]
theorem gs_yes {b : Nat → Bool} {k : Nat} (h : b k = true) : gs b (k + 1) = gs b k ||| 2 ^ k := by rw [gs_succ, h]; rfl
theorem gs_no {b : Nat → Bool} {k : Nat} (h : b k = false) : gs b (k + 1) = gs b k := by rw [gs_succ, h]; rfl
theorem gs_lt (b : Nat → Bool) {k : Nat} (hk : k ≤ 32) : gs b k < 4294967296 := ofN_lt fun n hn => by
  have := (List.mem_filter.1 hn).1
  rw [List.mem_range] at this; omega
theorem gs_bit (b : Nat → Bool) (k i : Nat) : (gs b k).testBit i = (decide (i < k) && b i) := by
  unfold gs
  rw [ofN_bit]
  by_cases h : i < k
  · simp [h]
  · simp [h]

def upB (L : List Nod) (i : Nat) : Bool := (nodAt L i).2.1
def coB (L : List Nod) (c : Int) (i : Nat) : Bool := decide (c ≤ (nodAt L i).1)
def upP (L : List Nod) : Nat := gs (upB L) (min L.length 32)
def ableP (L : List Nod) (s : Nat) (c : Int) : Nat := s &&& gs (coB L c) (min L.length 32)

theorem upP_lt (L : List Nod) : upP L < 4294967296 := gs_lt _ (by omega)

end Go.Proofs.YtflapjehkgefdaaGreat.Nd
