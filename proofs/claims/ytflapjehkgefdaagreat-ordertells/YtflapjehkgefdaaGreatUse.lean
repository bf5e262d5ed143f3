/- How many cores run for an account, and for a quality; whether a limit is passed. -/
import Derived.Test.YtflapjehkgefdaaGreatCnt
import Derived.Test.YtflapjehkgefdaaGreatVals
import Derived.Test.YtflapjehkgefdaaGreatDraw2
namespace Go.Proofs.YtflapjehkgefdaaGreat
open Go.RowKit
set_option linter.unusedVariables false

theorem range_below {w w' : World} {b o : Nat} {cs : List Value} (h : w.rangeAt b o cs) (hb : Below w.heap.size w w') : w'.rangeAt b o cs := fun j v hv => stay hb (h j v hv)
theorem lit_range (w : World) (e : Nat) (cs : List Value) : (w.alloc (.cells cs.toArray e)).rangeAt w.heap.size 0 cs := fun j v hv => by
  rw [Nat.zero_add]; exact lit_cell w e cs.toArray j v (by simpa using hv)

/-- Which error a name of an account has. -/
def cErr (A : List Acc) (Q : List Qu) (n : ByteArray) : Int := if confB A Q = true then (if (fi A n).isSome = true then 0 else 141) else 2
def cVal (A : List Acc) (Q : List Qu) (L : List Job) (n : ByteArray) : Int := if cErr A Q n = 0 then (cntP (onP A n) L).1 else 0
def qErr (A : List Acc) (Q : List Qu) (n : ByteArray) : Int := if confB A Q = true then (if (qi Q n).isSome = true then 0 else 141) else 2
def qVal (A : List Acc) (Q : List Qu) (L : List Job) (n : ByteArray) : Int := if qErr A Q n = 0 then (cntP (inP n) L).1 else 0
def qNum (A : List Acc) (Q : List Qu) (L : List Job) (n : ByteArray) : Int := if qErr A Q n = 0 then ((cntP (inP n) L).2 : Int) else 0

theorem results_tmp3 {fn : Func} {t u v : Tmp} (h : fn.results = #[.tmp t, .tmp u, .tmp v]) (tmps : Array Value) (P : Program) (w : World) :
    (results fn tmps).run P w = .ok (.tuple #[tmps.getD t undef, tmps.getD u undef, tmps.getD v undef]) w := by
  simp [results, h]
theorem wrapEq (x : Int) : IntKind.i64.wrap x = wrap64 x := by rw [IntKind.wrap_i64]; unfold wrap64; rfl
theorem size_lit (w : World) (o : Obj) : (w.alloc o).heap.size = w.heap.size + 1 := Array.size_push _
theorem plV_neg {r : Option Nat} (h : r = none) : decide (plV r < 0) = true := by subst h; rfl
theorem plV_pos {r : Option Nat} {i : Nat} (h : r = some i) : decide (plV r < 0) = false := by subst h; exact decide_eq_false (by simp only [plV]; omega)

theorem wp_callc {Q : Exit → Act → World → Prop} {a : Act} {w : World} {K : Act → World → Prop} {o : Oper} (f : FuncId) (x : Operand) (args : Array Operand) (tys : Array TypeId)
    (ho : o.op = .call { callee := .value x, args := args, argTypes := tys }) (hx : a.eval x = .func (.func f) #[] #[]) (fn : Func) (hf : Tryz.prog.funcs[f]? = some fn) (hn : (fn.name == "runtime.NumGoroutine") = false) (hbd : fn.body.isNone = false) (vals : Array Value) (hv : args.map a.eval = vals) {post : Ending → World → Prop} (hc : Calls Tryz.prog f vals w post)
    (hK : ∀ e w', post e w' → ∃ v, e = .returned v ∧ K (a.put o.dst v) w') : Oper.wp Tryz.prog o a w K Q := by
  have he : (execOp a.eval o).run Tryz.prog w = .ok (.enter f vals) w := by
    subst hv
    have hn' : ¬ fn.name = "runtime.NumGoroutine" := by simpa using hn
    have hbd' : ¬ fn.body = none := by intro e; rw [e] at hbd; cases hbd
    simp [execOp, ho, resolve, invoke, hx, Deferred.ofValue, callFunc, hf, hn', hbd']
  unfold Oper.wp
  rw [he, Oper.upon_enter]
  refine hc.mono ?_
  intro e w' h
  obtain ⟨v, rfl, hk⟩ := hK e w' h
  exact hk

end Go.Proofs.YtflapjehkgefdaaGreat
