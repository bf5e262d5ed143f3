/- Steps of a region that draws its order, where each slot's value, or what holds of it, is told ahead; pieces of code. -/
import Derived.Test.YtpngnmogjmdmhaaVals3
import Derived.Test.YtpngnmogjmdmhaaDraw3
namespace Go.Proofs.Ytpngnmogjmdmhaa
open Go.RowKit

/-- Slot q holds the value that is told of it; those in X hold what R says. -/
def PrV (V : List Value) (X : List Nat) (R : Nat → Value → World → Prop) (q : Nat) (v : Value) (w : World) : Prop := if X.contains q = true then R q v w else v = V.getD q undef

theorem PrV.is {V : List Value} {X : List Nat} {R : Nat → Value → World → Prop} {q : Nat} {v : Value} {w : World} (h : X.contains q = false) (e : v = V.getD q undef) : PrV V X R q v w := by
  unfold PrV; rw [h]; exact e
theorem PrV.by {V : List Value} {X : List Nat} {R : Nat → Value → World → Prop} {q : Nat} {v : Value} {w : World} (h : X.contains q = true) (e : R q v w) : PrV V X R q v w := by
  unfold PrV; rw [h]; exact e
theorem PrV.val {V : List Value} {X : List Nat} {R : Nat → Value → World → Prop} {q : Nat} {v : Value} {w : World} (p : PrV V X R q v w) (h : X.contains q = false) : v = V.getD q undef := by
  unfold PrV at p; rw [h] at p; exact p
theorem PrV.out {V : List Value} {X : List Nat} {R : Nat → Value → World → Prop} {q : Nat} {v : Value} {w : World} (p : PrV V X R q v w) (h : X.contains q = true) : R q v w := by
  unfold PrV at p; rw [h] at p; exact p
theorem PrV.mono {V : List Value} {X : List Nat} {R : Nat → Value → World → Prop} (hR : ∀ q v w w', R q v w → Below w.heap.size w w' → R q v w') (q : Nat) (v : Value) (w w' : World) (p : PrV V X R q v w) (h : Below w.heap.size w w') : PrV V X R q v w' := by
  unfold PrV at *
  split at p
  · rename_i e; rw [if_pos e]; exact hR q v w w' p h
  · rename_i e; rw [if_neg e]; exact p


section
variable {ops : Array Oper} {Q : Exit → Act → World → Prop} {a : Act} {w : World} {K : Act → World → Prop} {o : Oper} {E : Prop}
/-- The guard's own operation was not wanted either. -/
theorem want_u {j : Nat} {b : Bool} {s : Tmp} (hg : o.guard = some (j, b)) (hd : (ops[j]?).bind (·.dst) = some s) (hv : a.tmps.getD s undef = undef) : Region.wanted o (yielded ops a.tmps) = false := by
  have h2 : a.tmps[s]? = some undef ∨ a.tmps[s]? = none := by
    rw [Array.getD_eq_getD_getElem?] at hv
    cases h : a.tmps[s]? with
    | none => exact .inr rfl
    | some v => rw [h] at hv; left; simpa using hv
  rcases h2 with h2 | h2
  · simp [Region.wanted, hg, yielded, hd, h2, undef]
  · simp [Region.wanted, hg, yielded, hd, h2]

theorem kq {d : Option Tmp} {v u : Value} (h : K (a.put d v) w) (e : v = u) : K (a.put d u) w := e ▸ h
theorem args3 {x y z : Operand} {v u t : Value} (h : a.eval x = v) (k : a.eval y = u) (l : a.eval z = t) : #[x, y, z].map a.eval = #[v, u, t] := by simp [h, k, l]
theorem args4 {x y z x4 : Operand} {v u t s : Value} (h : a.eval x = v) (k : a.eval y = u) (l : a.eval z = t) (l4 : a.eval x4 = s) : #[x, y, z, x4].map a.eval = #[v, u, t, s] := by simp [h, k, l, l4]
end

def blkAt (n : Nat) : Code → Option Code
  | .block m c => if m == n then some (.block m c) else blkAt n c
  | .seq a b => match blkAt n a with
    | some x => some x
    | none => blkAt n b
  | .cond _ a b => match blkAt n a with
    | some x => some x
    | none => blkAt n b
  | .loop c => blkAt n c
  | .scope c => blkAt n c
  | _ => none

def regAt (n : Nat) : Code → Option Code
  | .region m o d => if m == n then some (.region m o d) else none
  | .block _ c => regAt n c
  | .seq a b => match regAt n a with
    | some x => some x
    | none => regAt n b
  | .cond _ a b => match regAt n a with
    | some x => some x
    | none => regAt n b
  | .loop c => regAt n c
  | .scope c => regAt n c
  | _ => none

/-- Only the way straight on. -/
def Nrm (F : Act → World → Prop) : Exit → Act → World → Prop
  | .normal => F
  | _ => fun _ _ => False

theorem nrm_of {Q : Exit → Act → World → Prop} : ∀ e a w, Nrm (Q .normal) e a w → Q e a w := by
  intro e a w h
  cases e <;> first | exact h | exact h.elim

end Go.Proofs.Ytpngnmogjmdmhaa
