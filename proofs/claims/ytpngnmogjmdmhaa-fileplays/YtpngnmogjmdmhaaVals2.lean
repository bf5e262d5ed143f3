/- More steps of a region that draws its order. -/
import Derived.Test.YtpngnmogjmdmhaaVals
import Derived.Deep.MidRow
namespace Go.Proofs.Ytpngnmogjmdmhaa
open Go.RowKit

section
variable {Q : Exit → Act → World → Prop} {a : Act} {w : World} {K : Act → World → Prop} {d ty : Nat} {pos : String} {af : Array Edge} {gd : Option (Nat × Bool)}

theorem slot {s : Nat} {v : Value} (h : a.tmps.getD s undef = v) : a.tmps[s]?.getD undef = v := by rw [← Array.getD_eq_getD_getElem?]; exact h

set_option maxRecDepth 100000 in
theorem wp_idx68 (x y g n c k : Nat) (hx : a.tmps.getD x undef = .slice (some ⟨g, 0, none⟩) n c) (hy : a.tmps.getD y undef = .int .i64 (k : Int)) (hk : k < n)
    (h : K (a.put (some d) (.pointer (some ⟨g, k * 3, none⟩))) w) : Oper.wp Try.prog ⟨some d, Op.indexAddr 68 (.tmp x) (.tmp y), ty, pos, af, gd⟩ a w K Q := by
  have e1 := slot hx
  have e2 := slot hy
  go_simp
  exact h

set_option maxRecDepth 100000 in
theorem wp_idx66 (x y g o k : Nat) (hx : a.tmps.getD x undef = .pointer (some ⟨g, o, none⟩)) (hy : a.tmps.getD y undef = .int .i64 (k : Int)) (hk : k < 3)
    (h : K (a.put (some d) (.pointer (some ⟨g, o + k, none⟩))) w) : Oper.wp Try.prog ⟨some d, Op.indexAddr 66 (.tmp x) (.tmp y), ty, pos, af, gd⟩ a w K Q := by
  have e1 := slot hx
  have e2 := slot hy
  go_simp
  rw [if_pos (by omega)]
  exact h

set_option maxRecDepth 100000 in
theorem wp_ld9 (x : Nat) (ad : Addr) (s : ByteArray) (hx : a.tmps.getD x undef = .pointer (some ad)) (hc : w.cell? ad = some (.string s))
    (h : K (a.put (some d) (.string s)) w) : Oper.wp Try.prog ⟨some d, Op.load 9 (.tmp x), ty, pos, af, gd⟩ a w K Q := by
  have e1 := slot hx
  go_simp
  exact h

set_option maxRecDepth 100000 in
theorem wp_len9 (x : Nat) (s : ByteArray) (hx : a.tmps.getD x undef = .string s)
    (h : K (a.put (some d) (.int .i64 (s.size : Int))) w) : Oper.wp Try.prog ⟨some d, Op.call { callee := .builtin .len, args := #[.tmp x], argTypes := #[9] }, 3, pos, af, gd⟩ a w K Q := by
  have e1 := slot hx
  go_simp
  exact h

set_option maxRecDepth 100000 in
theorem wp_len68 (x n c : Nat) (ad : Option Addr) (hx : a.tmps.getD x undef = .slice ad n c)
    (h : K (a.put (some d) (.int .i64 (n : Int))) w) : Oper.wp Try.prog ⟨some d, Op.call { callee := .builtin .len, args := #[.tmp x], argTypes := #[68] }, 3, pos, af, gd⟩ a w K Q := by
  have e1 := slot hx
  go_simp
  exact h

set_option maxRecDepth 100000 in
theorem wp_min (x y : Nat) (m n : Nat) (hx : a.tmps.getD x undef = .int .i64 (m : Int)) (hy : a.tmps.getD y undef = .int .i64 (n : Int))
    (h : K (a.put (some d) (.int .i64 ((min m n : Nat) : Int))) w) : Oper.wp Try.prog ⟨some d, Op.call { callee := .builtin .min, args := #[.tmp x, .tmp y], argTypes := #[3, 3] }, 3, pos, af, gd⟩ a w K Q := by
  have e1 := slot hx
  have e2 := slot hy
  have e3 : ((min m n : Nat) : Int) = if n < m then (n : Int) else (m : Int) := by
    split <;> omega
  rw [e3] at h
  clear e3
  go_simp
  exact h

set_option maxRecDepth 100000 in
theorem wp_not (x : Nat) (b : Bool) (hx : a.tmps.getD x undef = .bool b)
    (h : K (a.put (some d) (.bool !b)) w) : Oper.wp Try.prog ⟨some d, Op.unOp .not 4 (.tmp x), ty, pos, af, gd⟩ a w K Q := by
  have e1 := slot hx
  go_simp
  exact h

set_option maxRecDepth 100000 in
theorem wp_conv9 (x n c : Nat) (ad : Option Addr) (l : List UInt8) (hn : l.length = n) (hat : At w ad l) (hx : a.tmps.getD x undef = .slice ad n c)
    (h : K (a.put (some d) (.string (txt l))) w) : Oper.wp Try.prog ⟨some d, Op.convert 26 9 (.tmp x), ty, pos, af, gd⟩ a w K Q := by
  have e1 := slot hx
  have hc := conv_run w ad l n c hn hat
  unfold txt at h
  go_simp
  exact h

theorem wp_ld66 (x g o : Nat) (f : Fs) (hx : a.tmps.getD x undef = .pointer (some ⟨g, o, none⟩)) (hr : w.rangeAt g o [.string (txt (f 0)), .string (txt (f 1)), .string (txt (f 2))])
    (h : K (a.put (some d) (tv f)) w) : Oper.wp Try.prog ⟨some d, Op.load 66 (.tmp x), ty, pos, af, gd⟩ a w K Q :=
  wp_load_mid 66 (.tmp x) rfl g o hx _ _ hr Try.underlying66 rfl info66 h
end

def fcells (f : Fs) : List Value := [.string (txt (f 0)), .string (txt (f 1)), .string (txt (f 2))]

theorem txt_toList (l : List UInt8) : (txt l).toList = l := by
  unfold txt
  rw [ByteArray.toList_eq]

theorem eq_tv (w : World) (f g : Fs) : (binOp .eql 66 (tv f) (tv g)).run Try.prog w = .ok (.bool (decide (f 0 = g 0 ∧ f 1 = g 1 ∧ f 2 = g 2))) w := by
  unfold tv
  rw [eq_arr]
  simp only [txt_toList]
end Go.Proofs.Ytpngnmogjmdmhaa
