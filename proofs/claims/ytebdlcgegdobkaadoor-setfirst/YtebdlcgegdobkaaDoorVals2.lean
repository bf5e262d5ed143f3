/- Steps of a region that draws its order: slices of numbers. -/
import Derived.Test.YtebdlcgegdobkaaDoorVals
import Derived.Test.YtebdlcgegdobkaaDoorAwake
namespace Go.Proofs.YtebdlcgegdobkaaDoor
open Go.RowKit

section
variable {ops : Array Oper} {Q : Exit → Act → World → Prop} {a : Act} {w : World} {K : Act → World → Prop} {o : Oper} {d : Tmp} {ty : TypeId} {pos : String} {af : Array Edge} {gd : Option (Nat × Bool)}

theorem slot {s : Nat} {v : Value} (h : a.tmps.getD s undef = v) : a.tmps[s]?.getD undef = v := by simpa using h

theorem want_f {j : Nat} {b b' : Bool} {s : Tmp} (hg : o.guard = some (j, b)) (hd : (ops[j]?).bind (·.dst) = some s) (hv : a.tmps.getD s undef = .bool b') (hne : b' ≠ b) : Region.wanted o (yielded ops a.tmps) = false := by
  have h2 : a.tmps[s]? = some (.bool b') := by
    rw [Array.getD_eq_getD_getElem?] at hv
    cases h : a.tmps[s]? with
    | none => rw [h] at hv; simp [undef] at hv
    | some v => rw [h] at hv; simpa using hv
  simp [Region.wanted, hg, yielded, hd, h2, hne]
theorem nope (hw : Region.wanted o (yielded ops a.tmps) = false) (h : K (a.put o.dst undef) w) : if Region.wanted o (yielded ops a.tmps) = true then Oper.wp Tryd.prog o a w K Q else K (a.put o.dst undef) w := by
  rw [if_neg (by rw [hw]; simp)]; exact h

set_option maxRecDepth 100000 in
theorem wp_idx22 (x y g n c k : Nat) (hx : a.tmps.getD x undef = .slice (some ⟨g, 0, none⟩) n c) (hy : a.tmps.getD y undef = .int .i64 (k : Int)) (hk : k < n)
    (h : K (a.put (some d) (.pointer (some ⟨g, k, none⟩))) w) : Oper.wp Tryd.prog ⟨some d, Op.indexAddr 22 (.tmp x) (.tmp y), ty, pos, af, gd⟩ a w K Q := by
  have e1 := slot hx
  have e2 := slot hy
  go_simp
  exact h

set_option maxRecDepth 100000 in
theorem wp_idx22c (x g n c : Nat) (hx : a.tmps.getD x undef = .slice (some ⟨g, 0, none⟩) n c) (hk : 0 < n)
    (h : K (a.put (some d) (.pointer (some ⟨g, 0, none⟩))) w) : Oper.wp Tryd.prog ⟨some d, Op.indexAddr 22 (.tmp x) (.const (.int .i64 0)), ty, pos, af, gd⟩ a w K Q := by
  have e1 := slot hx
  go_simp
  exact h

set_option maxRecDepth 100000 in
theorem wp_ld3 (x : Nat) (ad : Addr) (s : Int) (hx : a.tmps.getD x undef = .pointer (some ad)) (hc : w.cell? ad = some (.int .i64 s))
    (h : K (a.put (some d) (.int .i64 s)) w) : Oper.wp Tryd.prog ⟨some d, Op.load 3 (.tmp x), ty, pos, af, gd⟩ a w K Q := by
  have e1 := slot hx
  go_simp
  exact h

set_option maxRecDepth 100000 in
theorem wp_len22 (x n c : Nat) (ad : Option Addr) (hx : a.tmps.getD x undef = .slice ad n c)
    (h : K (a.put (some d) (.int .i64 (n : Int))) w) : Oper.wp Tryd.prog ⟨some d, Op.call { callee := .builtin .len, args := #[.tmp x], argTypes := #[22] }, 3, pos, af, gd⟩ a w K Q := by
  have e1 := slot hx
  go_simp
  exact h
end
theorem eqz_t {n : Nat} (h : n = 0) (w : World) : (binOp .eql 3 (.int .i64 (n : Int)) (.int .i64 0)).run Tryd.prog w = .ok (.bool true) w := by
  subst h; rfl
theorem eqz_f {n : Nat} (h : n ≠ 0) (w : World) : (binOp .eql 3 (.int .i64 (n : Int)) (.int .i64 0)).run Tryd.prog w = .ok (.bool false) w := by
  have h2 : ((n : Int) == 0) = false := by simpa using h
  go_simp
theorem sub_one {n : Nat} (h : n ≠ 0) (h2 : n ≤ 32) (w : World) : (binOp .sub 3 (.int .i64 (n : Int)) (.int .i64 1)).run Tryd.prog w = .ok (.int .i64 ((n - 1 : Nat) : Int)) w := by
  have e : ((n - 1 : Nat) : Int) = (n : Int) - 1 := by omega
  rw [e]
  go_simp
  simp [IntKind.wrap, IntKind.bits, IntKind.signed]
  omega
theorem lss_t {x y : Int} (h : x < y) (w : World) : (binOp .lss 3 (.int .i64 x) (.int .i64 y)).run Tryd.prog w = .ok (.bool true) w := by
  have h2 : decide (x < y) = true := by simpa using h
  go_simp
end Go.Proofs.YtebdlcgegdobkaaDoor
