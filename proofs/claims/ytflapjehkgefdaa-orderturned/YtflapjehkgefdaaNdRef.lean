/- The document's Has, bit, Of, List, Within, First. -/
import Derived.Test.YtflapjehkgefdaaNdNums
namespace Go.Proofs.Ytflapjehkgefdaa.Nd
open Go.RowKit

def hasR (s : Nat) (i : Int) : Bool := decide (0 ≤ i) && (decide (i < 32) && s.testBit i.toNat)

theorem hasR_nat (s n : Nat) (hn : n < 32) : hasR s (n : Int) = s.testBit n := by simp [hasR]; omega

theorem half_bit (s n : Nat) : decide (s / 2 ^ n % 2 = 1) = s.testBit n := by
  rw [Nat.testBit_eq_decide_div_mod_eq]

/-- A node that is not there is added. -/
theorem add_or (s n : Nat) (hs : s < 4294967296) (hn : n < 32) (h : s.testBit n = false) : (s + 2 ^ n) % 4294967296 = s ||| 2 ^ n := by
  have hp := pow_lt32 hn
  have hand : s &&& 2 ^ n = 0 := (and_pow s n).2 h
  have e := BitVec.add_eq_or_of_and_eq_zero (BitVec.ofNat 32 s) (BitVec.ofNat 32 (2 ^ n)) (by
    apply BitVec.eq_of_toNat_eq
    rw [BitVec.toNat_and, BitVec.toNat_ofNat, BitVec.toNat_ofNat, Nat.mod_eq_of_lt hs, Nat.mod_eq_of_lt hp, hand]; rfl)
  have e2 := congrArg BitVec.toNat e
  rw [BitVec.toNat_add, BitVec.toNat_or, BitVec.toNat_ofNat, BitVec.toNat_ofNat, Nat.mod_eq_of_lt hs, Nat.mod_eq_of_lt hp] at e2
  exact e2

theorem or_same (s n : Nat) (h : s.testBit n = true) : s ||| 2 ^ n = s := by
  apply Nat.eq_of_testBit_eq
  intro i
  rw [Nat.testBit_or, Nat.testBit_two_pow]
  by_cases e : n = i
  · subst e; simp [h]
  · simp [e]

end Go.Proofs.Ytflapjehkgefdaa.Nd
