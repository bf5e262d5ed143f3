/- How many cores run for an account, and for a quality; whether a limit is passed. -/
import Derived.Test.YtomdghodbkhkaaaGreatDoorCnt
import Derived.Test.YtomdghodbkhkaaaGreatDoorVals
import Derived.Test.YtomdghodbkhkaaaGreatDoorDraw2
namespace Go.Proofs.YtomdghodbkhkaaaGreatDoor
open Go.RowKit
set_option linter.unusedVariables false

theorem range_below {w w' : World} {b o : Nat} {cs : List Value} (h : w.rangeAt b o cs) (hb : Below w.heap.size w w') : w'.rangeAt b o cs := fun j v hv => stay hb (h j v hv)
theorem lit_range (w : World) (e : Nat) (cs : List Value) : (w.alloc (.cells cs.toArray e)).rangeAt w.heap.size 0 cs := fun j v hv => by
  rw [Nat.zero_add]; exact lit_cell w e cs.toArray j v (by simpa using hv)

theorem results_tmp3 {fn : Func} {t u v : Tmp} (h : fn.results = #[.tmp t, .tmp u, .tmp v]) (tmps : Array Value) (P : Program) (w : World) :
    (results fn tmps).run P w = .ok (.tuple #[tmps.getD t undef, tmps.getD u undef, tmps.getD v undef]) w := by
  simp [results, h]
theorem size_lit (w : World) (o : Obj) : (w.alloc o).heap.size = w.heap.size + 1 := Array.size_push _
end Go.Proofs.YtomdghodbkhkaaaGreatDoor
