/- Steps of a region that draws. -/
import Derived.Test.YtgjjgfppolmkoaaVals
import Derived.Deep.MidRow
namespace Go.Proofs.Ytgjjgfppolmkoaa
open Go.RowKit

section
variable {Q : Exit → Act → World → Prop} {a : Act} {w : World} {K : Act → World → Prop} {d ty : Nat} {pos : String} {af : Array Edge} {gd : Option (Nat × Bool)}

theorem slot {s : Nat} {v : Value} (h : a.tmps.getD s undef = v) : a.tmps[s]?.getD undef = v := by rw [← Array.getD_eq_getD_getElem?]; exact h

set_option maxRecDepth 100000 in
theorem wp_min (x y : Nat) (m n : Nat) (hx : a.tmps.getD x undef = .int .i64 (m : Int)) (hy : a.tmps.getD y undef = .int .i64 (n : Int))
    (h : K (a.put (some d) (.int .i64 ((min m n : Nat) : Int))) w) : Oper.wp Try.prog ⟨some d, Op.call { callee := .builtin .min, args := #[.tmp x, .tmp y], argTypes := #[3, 3] }, 3, pos, af, gd⟩ a w K Q := by
  have e1 := slot hx
  have e2 := slot hy
  have e3 : ((min m n : Nat) : Int) = if n < m then (n : Int) else (m : Int) := by
    split <;> omega
  rw [e3] at h
  clear e3
  go_simp
  exact h

set_option maxRecDepth 100000 in
theorem wp_not (x : Nat) (b : Bool) (hx : a.tmps.getD x undef = .bool b)
    (h : K (a.put (some d) (.bool !b)) w) : Oper.wp Try.prog ⟨some d, Op.unOp .not 4 (.tmp x), ty, pos, af, gd⟩ a w K Q := by
  have e1 := slot hx
  go_simp
  exact h

end
end Go.Proofs.Ytgjjgfppolmkoaa
