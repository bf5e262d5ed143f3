/- SessionOnce: pieces of its code; the world behind so many steps. -/
import Derived.Test.YthjggjjocfbjcaaOnceU
import Derived.Test.YthjggjjocfbjcaaOnceSend
import Derived.Test.YthjggjjocfbjcaaOnceTake
import Derived.Test.YthjggjjocfbjcaaOnceArr
import Derived.Test.YthjggjjocfbjcaaNumC
namespace Go.Proofs.Ythjggjjocfbjcaa
open Go.RowKit
set_option linter.unusedVariables false

def blkAt (n : Nat) : Code → Option Code
  | .block m c => if m == n then some (.block m c) else blkAt n c
  | .seq a b => match blkAt n a with
    | some x => some x
    | none => blkAt n b
  | .cond _ a b => match blkAt n a with
    | some x => some x
    | none => blkAt n b
  | .loop c => blkAt n c
  | .scope c => blkAt n c
  | _ => none

def regAt (n : Nat) : Code → Option Code
  | .region m o d => if m == n then some (.region m o d) else none
  | .block _ c => regAt n c
  | .seq a b => match regAt n a with
    | some x => some x
    | none => regAt n b
  | .cond _ a b => match regAt n a with
    | some x => some x
    | none => regAt n b
  | .loop c => regAt n c
  | .scope c => regAt n c
  | _ => none

/-- Only the way straight on. -/
def Nrm (F : Act → World → Prop) : Exit → Act → World → Prop
  | .normal => F
  | _ => fun _ _ => False

/-- The way straight on, and 'continue'. -/
def Two (F X : Act → World → Prop) : Exit → Act → World → Prop
  | .normal => F
  | .exit i => fun a w => i = 3 ∧ X a w
  | _ => fun _ _ => False

theorem nrm_of {Q : Exit → Act → World → Prop} : ∀ e a w, Nrm (Q .normal) e a w → Q e a w := by
  intro e a w h
  cases e <;> first | exact h | exact h.elim

theorem two_of {Q : Exit → Act → World → Prop} : ∀ e a w, Two (Q .normal) (Q (.exit 3)) e a w → Q e a w := by
  intro e a w h
  cases e with
  | normal => exact h
  | exit i => obtain ⟨rfl, h⟩ := h; exact h
  | _ => exact h.elim

/-- The law's world behind n steps. -/
def OI (g n : Nat) (w : World) : Prop := ∃ la lc L A tv T bv B rb R ctr, OS g g w la lc L A tv T bv B rb R ctr ∧ OP n L A T B R ctr

end Go.Proofs.Ythjggjjocfbjcaa
