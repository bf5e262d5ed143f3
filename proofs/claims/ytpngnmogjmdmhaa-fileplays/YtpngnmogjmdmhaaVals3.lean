/- Steps of a region that draws its order: slices of slices, bytes. -/
import Derived.Test.YtpngnmogjmdmhaaVals2
namespace Go.Proofs.Ytpngnmogjmdmhaa
open Go.RowKit

section
variable {ops : Array Oper} {E : Prop} {Q : Exit → Act → World → Prop} {a : Act} {w : World} {K : Act → World → Prop} {d ty : Nat} {pos : String} {af : Array Edge} {gd : Option (Nat × Bool)} {o : Oper}

theorem want_f {j : Nat} {b b' : Bool} {s : Tmp} (hg : o.guard = some (j, b)) (hd : (ops[j]?).bind (·.dst) = some s) (hv : a.tmps.getD s undef = .bool b') (hne : b' ≠ b) : Region.wanted o (yielded ops a.tmps) = false := by
  have h2 : a.tmps[s]? = some (.bool b') := by
    rw [Array.getD_eq_getD_getElem?] at hv
    cases h : a.tmps[s]? with
    | none => rw [h] at hv; simp [undef] at hv
    | some v => rw [h] at hv; simpa using hv
  simp [Region.wanted, hg, yielded, hd, h2, hne]
theorem nope (hw : Region.wanted o (yielded ops a.tmps) = false) (h : K (a.put o.dst undef) w) : if Region.wanted o (yielded ops a.tmps) = true then Oper.wp Try.prog o a w K Q else K (a.put o.dst undef) w := by
  rw [if_neg (by rw [hw]; simp)]; exact h

set_option maxRecDepth 100000 in
theorem wp_idx74 (x y g n c k : Nat) (hx : a.tmps.getD x undef = .slice (some ⟨g, 0, none⟩) n c) (hy : a.tmps.getD y undef = .int .i64 (k : Int)) (hk : k < n)
    (h : K (a.put (some d) (.pointer (some ⟨g, k, none⟩))) w) : Oper.wp Try.prog ⟨some d, Op.indexAddr 74 (.tmp x) (.tmp y), ty, pos, af, gd⟩ a w K Q := by
  have e1 := slot hx
  have e2 := slot hy
  go_simp
  exact h

set_option maxRecDepth 100000 in
theorem wp_idx26 (x y g n c k : Nat) (hx : a.tmps.getD x undef = .slice (some ⟨g, 0, none⟩) n c) (hy : a.tmps.getD y undef = .int .i64 (k : Int)) (hk : k < n)
    (h : K (a.put (some d) (.pointer (some ⟨g, k, none⟩))) w) : Oper.wp Try.prog ⟨some d, Op.indexAddr 26 (.tmp x) (.tmp y), ty, pos, af, gd⟩ a w K Q := by
  have e1 := slot hx
  have e2 := slot hy
  go_simp
  exact h

set_option maxRecDepth 100000 in
theorem wp_ld26 (x : Nat) (ad : Addr) (s : Option Addr) (n c : Nat) (hx : a.tmps.getD x undef = .pointer (some ad)) (hc : w.cell? ad = some (.slice s n c))
    (h : K (a.put (some d) (.slice s n c)) w) : Oper.wp Try.prog ⟨some d, Op.load 26 (.tmp x), ty, pos, af, gd⟩ a w K Q := by
  have e1 := slot hx
  go_simp
  exact h

set_option maxRecDepth 100000 in
theorem wp_ld5 (x : Nat) (ad : Addr) (s : Int) (hx : a.tmps.getD x undef = .pointer (some ad)) (hc : w.cell? ad = some (.int .u8 s))
    (h : K (a.put (some d) (.int .u8 s)) w) : Oper.wp Try.prog ⟨some d, Op.load 5 (.tmp x), ty, pos, af, gd⟩ a w K Q := by
  have e1 := slot hx
  go_simp
  exact h

set_option maxRecDepth 100000 in
theorem wp_len26 (x n c : Nat) (ad : Option Addr) (hx : a.tmps.getD x undef = .slice ad n c)
    (h : K (a.put (some d) (.int .i64 (n : Int))) w) : Oper.wp Try.prog ⟨some d, Op.call { callee := .builtin .len, args := #[.tmp x], argTypes := #[26] }, 3, pos, af, gd⟩ a w K Q := by
  have e1 := slot hx
  go_simp
  exact h
end
theorem args2 {a : Act} {x y : Operand} {u v : Value} (h : a.eval x = u) (h2 : a.eval y = v) : #[x, y].map a.eval = #[u, v] := by simp [h, h2]
theorem lss_nat (w : World) (m n : Nat) : (binOp .lss 3 (.int .i64 (m : Int)) (.int .i64 (n : Int))).run Try.prog w = .ok (.bool (decide (m < n))) w := by
  show Result.ok (Value.bool (decide ((m : Int) < n))) w = _
  rw [show decide ((m : Int) < n) = decide (m < n) by simp]
theorem neq_same (w : World) (n : Int) : (binOp .neq 5 (.int .u8 n) (.int .u8 n)).run Try.prog w = .ok (.bool false) w := by
  show Result.ok (Value.bool (n != n)) w = _
  rw [bne_self_eq_false]
end Go.Proofs.Ytpngnmogjmdmhaa
