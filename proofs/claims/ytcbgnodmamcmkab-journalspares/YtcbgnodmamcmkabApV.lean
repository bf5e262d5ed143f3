/- Steps of a region that draws its order: slices of slices, bytes. -/
import Derived.Test.YtcbgnodmamcmkabVals
import Derived.Test.YtcbgnodmamcmkabDrawL
import Derived.Deep.MidRow
namespace Go.Proofs.Ytcbgnodmamcmkab
open Go.RowKit

section
variable {ops : Array Oper} {E : Prop} {Q : Exit → Act → World → Prop} {a : Act} {w : World} {K : Act → World → Prop} {d ty : Nat} {pos : String} {af : Array Edge} {gd : Option (Nat × Bool)} {o : Oper}
set_option maxRecDepth 100000 in
theorem wp_min (x y : Nat) (m n : Nat) (hx : a.tmps.getD x undef = .int .i64 (m : Int)) (hy : a.tmps.getD y undef = .int .i64 (n : Int))
    (h : K (a.put (some d) (.int .i64 ((min m n : Nat) : Int))) w) : Oper.wp Try.prog ⟨some d, Op.call { callee := .builtin .min, args := #[.tmp x, .tmp y], argTypes := #[3, 3] }, 3, pos, af, gd⟩ a w K Q := by
  have e1 := slot hx
  have e2 := slot hy
  have e3 : ((min m n : Nat) : Int) = if n < m then (n : Int) else (m : Int) := by
    split <;> omega
  rw [e3] at h
  clear e3
  go_simp
  exact h

set_option maxRecDepth 100000 in
theorem wp_not (x : Nat) (b : Bool) (hx : a.tmps.getD x undef = .bool b)
    (h : K (a.put (some d) (.bool !b)) w) : Oper.wp Try.prog ⟨some d, Op.unOp .not 4 (.tmp x), ty, pos, af, gd⟩ a w K Q := by
  have e1 := slot hx
  go_simp
  exact h

set_option maxRecDepth 100000 in
theorem wp_idx74 (x y g n c k : Nat) (hx : a.tmps.getD x undef = .slice (some ⟨g, 0, none⟩) n c) (hy : a.tmps.getD y undef = .int .i64 (k : Int)) (hk : k < n)
    (h : K (a.put (some d) (.pointer (some ⟨g, k, none⟩))) w) : Oper.wp Try.prog ⟨some d, Op.indexAddr 42 (.tmp x) (.tmp y), ty, pos, af, gd⟩ a w K Q := by
  have e1 := slot hx
  have e2 := slot hy
  go_simp
  exact h

set_option maxRecDepth 100000 in
theorem wp_idx26 (x y g n c k : Nat) (hx : a.tmps.getD x undef = .slice (some ⟨g, 0, none⟩) n c) (hy : a.tmps.getD y undef = .int .i64 (k : Int)) (hk : k < n)
    (h : K (a.put (some d) (.pointer (some ⟨g, k, none⟩))) w) : Oper.wp Try.prog ⟨some d, Op.indexAddr 22 (.tmp x) (.tmp y), ty, pos, af, gd⟩ a w K Q := by
  have e1 := slot hx
  have e2 := slot hy
  go_simp
  exact h

set_option maxRecDepth 100000 in
theorem wp_ld26 (x : Nat) (ad : Addr) (s : Option Addr) (n c : Nat) (hx : a.tmps.getD x undef = .pointer (some ad)) (hc : w.cell? ad = some (.slice s n c))
    (h : K (a.put (some d) (.slice s n c)) w) : Oper.wp Try.prog ⟨some d, Op.load 22 (.tmp x), ty, pos, af, gd⟩ a w K Q := by
  have e1 := slot hx
  go_simp
  exact h

set_option maxRecDepth 100000 in
theorem wp_ld5 (x : Nat) (ad : Addr) (s : Int) (hx : a.tmps.getD x undef = .pointer (some ad)) (hc : w.cell? ad = some (.int .u8 s))
    (h : K (a.put (some d) (.int .u8 s)) w) : Oper.wp Try.prog ⟨some d, Op.load 5 (.tmp x), ty, pos, af, gd⟩ a w K Q := by
  have e1 := slot hx
  go_simp
  exact h

set_option maxRecDepth 100000 in
theorem wp_len26 (x n c : Nat) (ad : Option Addr) (hx : a.tmps.getD x undef = .slice ad n c)
    (h : K (a.put (some d) (.int .i64 (n : Int))) w) : Oper.wp Try.prog ⟨some d, Op.call { callee := .builtin .len, args := #[.tmp x], argTypes := #[22] }, 3, pos, af, gd⟩ a w K Q := by
  have e1 := slot hx
  go_simp
  exact h

end
theorem lss_nat (w : World) (m n : Nat) : (binOp .lss 3 (.int .i64 (m : Int)) (.int .i64 (n : Int))).run Try.prog w = .ok (.bool (decide (m < n))) w := by
  show Result.ok (Value.bool (decide ((m : Int) < n))) w = _
  rw [show decide ((m : Int) < n) = decide (m < n) by simp]
theorem neq_same (w : World) (n : Int) : (binOp .neq 5 (.int .u8 n) (.int .u8 n)).run Try.prog w = .ok (.bool false) w := by
  show Result.ok (Value.bool (n != n)) w = _
  rw [bne_self_eq_false]
def mkB (k i : Nat) : UInt8 := UInt8.ofNat (IntKind.u64.wrap ((1000003 * ((k : Int) + 7) + (i : Int)) * 11400714819323198485) / 72057594037927936 % 256).toNat

theorem u8_int (X : Int) : (((UInt8.ofNat (X % 256).toNat).toNat : Nat) : Int) = X % 256 := by
  rw [UInt8.toNat_ofNat']
  omega

set_option maxRecDepth 100000 in
theorem mark_any (k i : Nat) (w : World) (hk : k ≤ 1000) (hi : i ≤ 4611686018427387904) :
    Calls Try.prog 24 #[.int .i64 (k : Int), .int .i64 (i : Int)] w fun e w' => e = .returned (.int .u8 ((mkB k i).toNat : Int)) ∧ w' = w := by
  go_enter Try.func24, Try.ntmps24
  go_wp2
  go_ret
  exact ⟨ret_int (u8_int _).symm, rfl⟩

end Go.Proofs.Ytcbgnodmamcmkab
