/- OctetsOrder's Go text returns true for any two numbers, and turns nothing that was there. -/
import Derived.Test.YtdchmffkbiaeaaaAwake
import Derived.Deep.RegionWith
namespace Go.Proofs.Ytdchmffkbiaeaaa
open Go.RowKit

theorem bytesLess_lex : ∀ (l m : List UInt8), l.length = m.length → Op.bytesLess l m = decide (numOf l < numOf m)
  | [], [], _ => by simp [Op.bytesLess]
  | x :: l, y :: m, h => by
    have hl : l.length = m.length := by simpa using h
    have := numOf_lex (x :: l) (y :: m) h
    rw [Bool.eq_iff_iff, decide_eq_true_iff, ← this, List.cons_lt_cons_iff, numOf_lex l m hl]
    have ih := bytesLess_lex l m hl
    simp only [Op.bytesLess, ih]
    by_cases e : x = y
    · subst e; simp
    · have hne : x.toNat ≠ y.toNat := fun h => e (UInt8.toNat_inj.1 h)
      simp [e, UInt8.lt_iff_toNat_lt]

theorem undrew {w w1 : World} (h : Below w.drew.heap.size w.drew w1) : Below w.heap.size w w1 := ⟨h.os, h.tape, h.output, h.size, h.block⟩

theorem less_be (m n : Nat) (hm : m < 18446744073709551616) (hn : n < 18446744073709551616) : Op.bytesLess (be 8 m) (be 8 n) = decide (m < n) := by
  rw [bytesLess_lex _ _ (by rw [be_length, be_length]), numOf_be, numOf_be, Nat.mod_eq_of_lt (by omega), Nat.mod_eq_of_lt (by omega)]

theorem same_be (m n : Nat) (hm : m < 18446744073709551616) (hn : n < 18446744073709551616) : (be 8 m == be 8 n) = ((m : Int) == (n : Int)) := by
  rw [Bool.eq_iff_iff]
  simp only [beq_iff_eq]
  constructor
  · intro h
    have := congrArg numOf h
    rw [numOf_be, numOf_be, Nat.mod_eq_of_lt (by omega), Nat.mod_eq_of_lt (by omega)] at this
    omega
  · intro h
    have : m = n := by omega
    rw [this]

set_option maxHeartbeats 400000 in
theorem order_any (m n : Nat) (w : World) (hm : m < 18446744073709551616) (hn : n < 18446744073709551616) :
    Calls Try.prog 6 #[.int .u64 m, .int .u64 n] w fun e w' => e = .returned (.bool true) ∧ Below w.heap.size w w' := by
  have e1 := less_be m n hm hn
  have e2 := same_be m n hm hn
  have e3 := be_length 8 m
  go_enter Try.func6, Try.ntmps6
  go_wp2
  go_region_with (refine (add64_ex none 0 0 _ [] _ rfl (by omega) (by assumption) (at_nil _ _)).mono ?_; rintro e w1 ⟨g1, rfl, hr1, hb1⟩; have hbw : Below w.heap.size w w1 := (by first | exact undrew hb1 | exact bnext ‹Below w.heap.size w _› hb1); have hcA := conv_run w1 _ _ 8 8 (by simp [be_length]) hr1.at; have hcB := fun (w' : World) (hb : Below w1.heap.size w1 w') => conv_run w' _ _ 8 8 (by simp [be_length]) (hr1.at.below hb))
  all_goals
    go_wp2_with (go_at_call 13; refine (awake_any _).mono ?_; rintro e w9 ⟨rfl, hb9⟩)
    go_ret
    exact ⟨rfl, bnext hbw hb9⟩

end Go.Proofs.Ytdchmffkbiaeaaa
