/- Copies of specs, jobs and partitions. -/
import Derived.Test.YtomdghodbkhkaaaDoorRw
import Derived.Test.YtomdghodbkhkaaaDoorUse
namespace Go.Proofs.YtomdghodbkhkaaaDoor
open Go.RowKit
set_option linter.unusedVariables false

theorem setRow_other (w : World) (g : Nat) (cs : Array Value) {k : Nat} (h : k ≠ g) : (w.setRow g cs).heap[k]? = w.heap[k]? := by
  unfold World.setRow
  simp [Array.getElem?_modify, Ne.symm h]
theorem setRow_size (w : World) (g : Nat) (cs : Array Value) : (w.setRow g cs).heap.size = w.heap.size := by unfold World.setRow; simp
theorem below_setRow {base : Nat} {w w' : World} {g : Nat} (h : Below base w w') (hg : base ≤ g) (cs : Array Value) : Below base w (w'.setRow g cs) :=
  h.trans ⟨rfl, rfl, rfl, by rw [setRow_size]; exact Nat.le_refl _, fun k hk => setRow_other _ _ _ (by omega)⟩
theorem kp_setRow {S : Nat → Prop} {w w' : World} {g : Nat} (h : Kp S w w') (hg : S g) (cs : Array Value) : Kp S w (w'.setRow g cs) :=
  h.trans ⟨rfl, rfl, rfl, by rw [setRow_size]; exact Nat.le_refl _, fun k _ hn => setRow_other _ _ _ (fun e => hn (e ▸ hg))⟩
theorem setRow_setRow (w : World) (g : Nat) (a b : Array Value) : (w.setRow g a).setRow g b = w.setRow g b := by
  unfold World.setRow
  congr 1
  apply Array.ext
  · simp
  · intro k h1 h2
    simp only [Array.getElem_modify]
    split
    · rename_i hk
      subst hk
      cases w.heap[g]'(by simpa using h1) <;> rfl
    · rfl
theorem setRow_self (w : World) (g : Nat) (cur : Array Value) (t : TypeId) (fr : Nat × Nat) (h : w.heap[g]? = some (.cells cur t fr)) : w.setRow g cur = w := by
  obtain ⟨hlt, hv⟩ := Array.getElem?_eq_some_iff.1 h
  have : (w.setRow g cur).heap = w.heap := by
    unfold World.setRow
    apply Array.ext
    · simp
    · intro k h1 h2
      simp only [Array.getElem_modify]
      split
      · rename_i hk
        subst hk
        rw [hv]
      · rfl
  unfold World.setRow at this ⊢
  simp only at this
  rw [this]
def setAll : Array Value → Nat → List Value → Array Value
  | cur, _, [] => cur
  | cur, o, v :: r => setAll (cur.setIfInBounds o v) (o + 1) r
theorem setCells_row (g : Nat) (t : TypeId) (fr : Nat × Nat) : ∀ (vs : List Value) (o : Nat) (cur : Array Value) (w : World), w.heap[g]? = some (.cells cur t fr) → w.setCells g o vs = w.setRow g (setAll cur o vs)
  | [], o, cur, w, h => (setRow_self w g cur t fr h).symm
  | v :: r, o, cur, w, h => by
    have h2 := setRow_heap w g cur (cur.setIfInBounds o v) t fr h
    show (w.setCell ⟨g, o, none⟩ v).setCells g (o + 1) r = _
    rw [setCell_eq_setRow w g o cur t fr v h, setCells_row g t fr r (o + 1) _ _ h2, setRow_setRow]
    rfl

theorem row_cell {w : World} {g : Nat} {cs : Array Value} {t : TypeId} {fr : Nat × Nat} (h : w.heap[g]? = some (.cells cs t fr)) (r : Nat) (v : Value) (hv : cs[r]? = some v) : w.cell? ⟨g, r, none⟩ = some v := by
  rw [cell_of_row w g r cs t fr h]; exact hv
theorem row_free {w : World} {g : Nat} {cs : Array Value} {t : TypeId} (h : w.heap[g]? = some (.cells cs t (0, 0))) (r : Nat) : w.frozen? ⟨g, r, none⟩ = false := by
  simp [World.frozen?, h]
theorem sc_all (s : Spc) : (sc s).toArray.all (·.oneCell') = true := by simp [sc, Value.oneCell']

/-- The same, its dependencies elsewhere. -/
def Spc.re (s : Spc) (x : Option Addr) (y : Nat) : Spc := ⟨s.user, s.acct, s.qos, s.part, s.nodes, s.cores, s.lim, x, s.dn, y⟩
def Job.re (j : Job) (x : Option Addr) (y : Nat) : Job := ⟨j.id, j.arr, j.idx, j.s.re x y, j.st, j.sub, j.beg, j.fin, j.on, j.exit⟩

theorem jc_set (j : Job) (x : Option Addr) (y : Nat) : setAll (jc j).toArray 3 (sc (j.s.re x y)) = (jc (j.re x y)).toArray := by
  simp only [setAll, sc, jc, Job.re, Spc.re, List.setIfInBounds_toArray, List.set_cons_zero, List.set_cons_succ]

end Go.Proofs.YtomdghodbkhkaaaDoor
