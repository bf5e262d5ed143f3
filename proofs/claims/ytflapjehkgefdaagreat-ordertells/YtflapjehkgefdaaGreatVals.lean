/- Steps of a region that draws its order, where each slot's value, or what holds of it, is told ahead. -/
import Derived.Test.YtflapjehkgefdaaGreatMem
import Derived.Test.YtflapjehkgefdaaGreatDraw
import Derived.Laws.Rows
namespace Go.Proofs.YtflapjehkgefdaaGreat
open Go.RowKit

theorem bel_tr (a b c : World) (h : Below a.heap.size a b) (k : Below b.heap.size b c) : Below a.heap.size a c := bnext h k
theorem no_dst {ops : Array Oper} {s : Tmp} (h : ops.all (fun o => o.dst != some s) = true) : ∀ (i : Nat) (o : Oper), ops[i]? = some o → o.dst ≠ some s := fun i o hi e => by
  obtain ⟨hlt, rfl⟩ := Array.getElem?_eq_some_iff.1 hi
  have := Array.all_eq_true.1 h i hlt
  rw [e] at this
  simp at this
theorem get_keep {a : Act} {t : Array Value} {s : Nat} {v : Value} (h : a.tmps[s]? = t[s]?) (ht : t[s]? = some v) : a.tmps.getD s undef = v := by
  rw [Array.getD_eq_getD_getElem?, h, ht]; rfl

/-- Slot q holds the value that is told of it; those in X hold what R says. -/
def PrV (V : List Value) (X : List Nat) (R : Nat → Value → World → Prop) (q : Nat) (v : Value) (w : World) : Prop := if X.contains q = true then R q v w else v = V.getD q undef

theorem PrV.is {V : List Value} {X : List Nat} {R : Nat → Value → World → Prop} {q : Nat} {v : Value} {w : World} (h : X.contains q = false) (e : v = V.getD q undef) : PrV V X R q v w := by
  unfold PrV; rw [h]; exact e
theorem PrV.by {V : List Value} {X : List Nat} {R : Nat → Value → World → Prop} {q : Nat} {v : Value} {w : World} (h : X.contains q = true) (e : R q v w) : PrV V X R q v w := by
  unfold PrV; rw [h]; exact e
theorem PrV.val {V : List Value} {X : List Nat} {R : Nat → Value → World → Prop} {q : Nat} {v : Value} {w : World} (p : PrV V X R q v w) (h : X.contains q = false) : v = V.getD q undef := by
  unfold PrV at p; rw [h] at p; exact p
theorem PrV.out {V : List Value} {X : List Nat} {R : Nat → Value → World → Prop} {q : Nat} {v : Value} {w : World} (p : PrV V X R q v w) (h : X.contains q = true) : R q v w := by
  unfold PrV at p; rw [h] at p; exact p
theorem PrV.mono {V : List Value} {X : List Nat} {R : Nat → Value → World → Prop} (hR : ∀ q v w w', R q v w → Below w.heap.size w w' → R q v w') (q : Nat) (v : Value) (w w' : World) (p : PrV V X R q v w) (h : Below w.heap.size w w') : PrV V X R q v w' := by
  unfold PrV at *
  split at p
  · rename_i e; rw [if_pos e]; exact hR q v w w' p h
  · rename_i e; rw [if_neg e]; exact p

section
variable {ops : Array Oper} {Q : Exit → Act → World → Prop} {a : Act} {w : World} {K : Act → World → Prop} {o : Oper} {E : Prop}

theorem slot {s : Nat} {v : Value} (h : a.tmps.getD s undef = v) : a.tmps[s]?.getD undef = v := by rw [← Array.getD_eq_getD_getElem?]; exact h
theorem want_n (hg : o.guard = none) : Region.wanted o (yielded ops a.tmps) = true := by simp [Region.wanted, hg]
theorem want_g {j : Nat} {b : Bool} {d : Tmp} (hg : o.guard = some (j, b)) (hd : (ops[j]?).bind (·.dst) = some d) (hv : a.tmps.getD d undef = .bool b) : Region.wanted o (yielded ops a.tmps) = true := by
  have h2 : a.tmps[d]? = some (.bool b) := by
    rw [Array.getD_eq_getD_getElem?] at hv
    cases h : a.tmps[d]? with
    | none => rw [h] at hv; simp [undef] at hv
    | some v => rw [h] at hv; simpa using hv
  simp [Region.wanted, hg, yielded, hd, h2]
theorem want_f {j : Nat} {b b' : Bool} {s : Tmp} (hg : o.guard = some (j, b)) (hd : (ops[j]?).bind (·.dst) = some s) (hv : a.tmps.getD s undef = .bool b') (hne : b' ≠ b) : Region.wanted o (yielded ops a.tmps) = false := by
  have h2 : a.tmps[s]? = some (.bool b') := by
    rw [Array.getD_eq_getD_getElem?] at hv
    cases h : a.tmps[s]? with
    | none => rw [h] at hv; simp [undef] at hv
    | some v => rw [h] at hv; simpa using hv
  simp [Region.wanted, hg, yielded, hd, h2, hne]
/-- The guard's own operation was not wanted either. -/
theorem want_u {j : Nat} {b : Bool} {s : Tmp} (hg : o.guard = some (j, b)) (hd : (ops[j]?).bind (·.dst) = some s) (hv : a.tmps.getD s undef = undef) : Region.wanted o (yielded ops a.tmps) = false := by
  have h2 : a.tmps[s]? = some undef ∨ a.tmps[s]? = none := by
    rw [Array.getD_eq_getD_getElem?] at hv
    cases h : a.tmps[s]? with
    | none => exact .inr rfl
    | some v => rw [h] at hv; left; simpa using hv
  rcases h2 with h2 | h2
  · simp [Region.wanted, hg, yielded, hd, h2, undef]
  · simp [Region.wanted, hg, yielded, hd, h2]
theorem yes (hw : Region.wanted o (yielded ops a.tmps) = true) (h : Oper.wp Tryz.prog o a w K Q) : if Region.wanted o (yielded ops a.tmps) = true then Oper.wp Tryz.prog o a w K Q else E := by rw [if_pos hw]; exact h
theorem nope (hw : Region.wanted o (yielded ops a.tmps) = false) (h : K (a.put o.dst undef) w) : if Region.wanted o (yielded ops a.tmps) = true then Oper.wp Tryz.prog o a w K Q else K (a.put o.dst undef) w := by
  rw [if_neg (by rw [hw]; simp)]; exact h

theorem wp_mv (x : Operand) (ho : o.op = .move x) (v : Value) (hx : a.eval x = v) (h : K (a.put o.dst v) w) : Oper.wp Tryz.prog o a w K Q := by
  unfold Oper.wp execOp
  simp only [ho, hx, Sem.run_pure]
  exact h
theorem wp_as (x : Operand) (ho : o.op = .assign x) (v : Value) (hx : a.eval x = v) (h : K (a.put o.dst v) w) : Oper.wp Tryz.prog o a w K Q := by
  unfold Oper.wp execOp
  simp only [ho, hx, Sem.run_pure]
  exact h
theorem wp_pick (x y z : Operand) (ho : o.op = .pick x y z) (b : Bool) (v : Value) (hx : a.eval x = .bool b) (hv : (if b then a.eval y else a.eval z) = v) (h : K (a.put o.dst v) w) : Oper.wp Tryz.prog o a w K Q := by
  unfold Oper.wp execOp
  cases b
  · simp at hv
    simp [ho, hx, hv]
    exact h
  · simp at hv
    simp [ho, hx, hv]
    exact h
theorem kq {d : Option Tmp} {v u : Value} (h : K (a.put d v) w) (e : v = u) : K (a.put d u) w := e ▸ h
theorem args0 : (#[] : Array Operand).map a.eval = #[] := by simp
theorem args1 {x : Operand} {v : Value} (h : a.eval x = v) : #[x].map a.eval = #[v] := by simp [h]
theorem args2 {x y : Operand} {v u : Value} (h : a.eval x = v) (k : a.eval y = u) : #[x, y].map a.eval = #[v, u] := by simp [h, k]
theorem args3 {x y z : Operand} {v u t : Value} (h : a.eval x = v) (k : a.eval y = u) (l : a.eval z = t) : #[x, y, z].map a.eval = #[v, u, t] := by simp [h, k, l]
theorem wp_callv (f : FuncId) (args : Array Operand) (tys : Array TypeId)
    (ho : o.op = .call { callee := .value (.func f), args := args, argTypes := tys }) (fn : Func) (hf : Tryz.prog.funcs[f]? = some fn) (hn : (fn.name == "runtime.NumGoroutine") = false) (hbd : fn.body.isNone = false) (vals : Array Value) (hv : args.map a.eval = vals) {post : Ending → World → Prop} (hc : Calls Tryz.prog f vals w post)
    (hK : ∀ e w', post e w' → ∃ v, e = .returned v ∧ K (a.put o.dst v) w') : Oper.wp Tryz.prog o a w K Q := by
  have he : (execOp a.eval o).run Tryz.prog w = .ok (.enter f vals) w := by
    subst hv
    have hn' : ¬ fn.name = "runtime.NumGoroutine" := by simpa using hn
    have hbd' : ¬ fn.body = none := by intro e; rw [e] at hbd; cases hbd
    simp [execOp, ho, resolve, invoke, Act.eval, Deferred.ofValue, callFunc, hf, hn', hbd']
  unfold Oper.wp
  rw [he, Oper.upon_enter]
  refine hc.mono ?_
  intro e w' h
  obtain ⟨v, rfl, hk⟩ := hK e w' h
  exact hk
end
end Go.Proofs.YtflapjehkgefdaaGreat
