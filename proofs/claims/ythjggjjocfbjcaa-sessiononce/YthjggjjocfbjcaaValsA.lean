/- More steps of a region that draws its order: guards that do not hold, a field's address, loads. -/
import Derived.Test.YthjggjjocfbjcaaVals
namespace Go.Proofs.Ythjggjjocfbjcaa
open Go.RowKit

section
variable {ops : Array Oper} {Q : Exit → Act → World → Prop} {a : Act} {w : World} {K : Act → World → Prop} {o : Oper} {d : Tmp} {ty : TypeId} {pos : String} {af : Array Edge} {gd : Option (Nat × Bool)}

theorem slot {s : Nat} {v : Value} (h : a.tmps.getD s undef = v) : a.tmps[s]?.getD undef = v := by simpa using h

theorem want_f {j : Nat} {b b' : Bool} {s : Tmp} (hg : o.guard = some (j, b)) (hd : (ops[j]?).bind (·.dst) = some s) (hv : a.tmps.getD s undef = .bool b') (hne : b' ≠ b) : Region.wanted o (yielded ops a.tmps) = false := by
  have h2 : a.tmps[s]? = some (.bool b') := by
    rw [Array.getD_eq_getD_getElem?] at hv
    cases h : a.tmps[s]? with
    | none => rw [h] at hv; simp [undef] at hv
    | some v => rw [h] at hv; simpa using hv
  simp [Region.wanted, hg, yielded, hd, h2, hne]
theorem nope (hw : Region.wanted o (yielded ops a.tmps) = false) (h : K (a.put o.dst undef) w) : if Region.wanted o (yielded ops a.tmps) = true then Oper.wp Try.prog o a w K Q else K (a.put o.dst undef) w := by
  rw [if_neg (by rw [hw]; simp)]; exact h

set_option maxRecDepth 100000 in
theorem wp_fld41_2 (x g : Nat) (hx : a.tmps.getD x undef = .pointer (some ⟨g, 0, none⟩))
    (h : K (a.put (some d) (.pointer (some ⟨g, 2, none⟩))) w) : Oper.wp Try.prog ⟨some d, Op.fieldAddr 41 (.tmp x) 2, ty, pos, af, gd⟩ a w K Q := by
  have e1 := slot hx
  go_simp
  exact h

set_option maxRecDepth 100000 in
theorem wp_ld3 (x : Nat) (ad : Addr) (s : Int) (hx : a.tmps.getD x undef = .pointer (some ad)) (hc : w.cell? ad = some (.int .i64 s))
    (h : K (a.put (some d) (.int .i64 s)) w) : Oper.wp Try.prog ⟨some d, Op.load 3 (.tmp x), ty, pos, af, gd⟩ a w K Q := by
  have e1 := slot hx
  go_simp
  exact h
end
theorem eql_f {x y : Int} (h : (x == y) = false) (w : World) : (binOp .eql 3 (.int .i64 x) (.int .i64 y)).run Try.prog w = .ok (.bool false) w := by
  go_simp
end Go.Proofs.Ythjggjjocfbjcaa
