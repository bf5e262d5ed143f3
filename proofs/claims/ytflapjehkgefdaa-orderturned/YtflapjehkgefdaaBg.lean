/- Maps of jobs by their ids; sets of ids. -/
import Derived.Test.YtflapjehkgefdaaAwk
import Derived.Maps.OwnSet
import Derived.Maps.Views
namespace Go.Proofs.Ytflapjehkgefdaa
open Go.RowKit Go.Maps
set_option linter.unusedVariables false

def RV (v : Value) : Option (DataW Value × List MemPlace) := some (.held v, [])
def jv (J : Job) : Value := .agg (jc J).toArray
def findJ (T : List Job) (k : Int) : Option Job := T.find? fun J => J.id == k
theorem findJ_snoc (T : List Job) (J : Job) (k : Int) (h : findJ T J.id = none) : findJ (T ++ [J]) k = if k = J.id then some J else findJ T k := by
  unfold findJ at *
  rw [List.find?_append]
  by_cases e : k = J.id
  · subst e
    rw [if_pos rfl, h]
    simp
  · rw [if_neg e]
    cases h2 : T.find? fun J => J.id == k with
    | some x => rfl
    | none =>
      simp
      intro h3; exact absurd h3.symm e
theorem same_i (a b : Int) : (Lit.int .i64 a).sameKey (.int .i64 b) = (a == b) := by
  rw [Bool.eq_iff_iff]; simp [Lit.sameKey]
theorem key_ok {k : Int} (hk : (Lit.int .i64 k).wf = true) : keyOf Try.prog 3 (.int .i64 k) = some (.int .i64 k) := keyOf_int_mk Try.underlying3 hk
theorem law3 : Keyed Try.prog 3 := int_keyed Try.underlying3

/-- A map of the jobs T, each under its id. -/
def MJ (w : World) (m : Nat) (T : List Job) : Prop := ∃ D : DataW Value, w.ownsMap Try.prog 3 RV m T.length D ∧
  ∀ k, has D (.int .i64 k) = (findJ T k).isSome ∧ ∀ z, D.atKey (.int .i64 k) z = (match findJ T k with | some J => .held (jv J) | none => z)
/-- A set of ids. -/
def MS (w : World) (m : Nat) (T : List Int) : Prop := ∃ D : DataW Value, w.ownsMap Try.prog 3 RV m T.length D ∧
  ∀ k z, D.atKey (.int .i64 k) z = (if k ∈ T then .held (.bool true) else z)

theorem own_below {k : TypeId} {w w' : World} {m n : Nat} {D : DataW Value} (h : w.ownsMap Try.prog k RV m n D) (hb : Below w.heap.size w w') : w'.ownsMap Try.prog k RV m n D := by
  have hl := h.lt
  obtain ⟨es, clock, hb', F, hs, hD⟩ := h
  exact ⟨es, clock, (hb.block m hl).trans hb', F, hs, hD⟩
theorem own_turned {k : TypeId} {w w' : World} {m m' n : Nat} {D : DataW Value} (h : w.ownsMap Try.prog k RV m n D) (ht : w.mapTurned w' m') (hne : m ≠ m') : w'.ownsMap Try.prog k RV m n D := by
  obtain ⟨es, clock, hb', F, hs, hD⟩ := h
  obtain ⟨es1, c1, es2, c2, hb2, rfl⟩ := ht
  refine ⟨es, clock, ?_, F, hs, hD⟩
  simp only [ChangeMaps.setBlock]
  rw [Array.getElem?_setIfInBounds, if_neg (fun e => hne e.symm)]
  exact hb'
theorem turned_below {w w' : World} {m : Nat} (ht : w.mapTurned w' m) : Below m w w' := by
  obtain ⟨es1, c1, es2, c2, hb2, rfl⟩ := ht
  refine ⟨rfl, rfl, rfl, by simp [ChangeMaps.setBlock], fun k hk => ?_⟩
  simp only [ChangeMaps.setBlock]
  rw [Array.getElem?_setIfInBounds, if_neg (by omega)]
theorem MJ.below {w w' : World} {m : Nat} {T : List Job} (h : MJ w m T) (hb : Below w.heap.size w w') : MJ w' m T := by
  obtain ⟨D, ho, hD⟩ := h
  exact ⟨D, own_below ho hb, hD⟩
theorem MS.below {w w' : World} {m : Nat} {T : List Int} (h : MS w m T) (hb : Below w.heap.size w w') : MS w' m T := by
  obtain ⟨D, ho, hD⟩ := h
  exact ⟨D, own_below ho hb, hD⟩
theorem MJ.turned {w w' : World} {m m' : Nat} {T : List Job} (h : MJ w m T) (ht : w.mapTurned w' m') (hne : m ≠ m') : MJ w' m T := by
  obtain ⟨D, ho, hD⟩ := h
  exact ⟨D, own_turned ho ht hne, hD⟩
theorem MJ.lt {w : World} {m : Nat} {T : List Job} (h : MJ w m T) : m < w.heap.size := by
  obtain ⟨D, ho, _⟩ := h
  exact ho.lt
theorem MS.lt {w : World} {m : Nat} {T : List Int} (h : MS w m T) : m < w.heap.size := by
  obtain ⟨D, ho, _⟩ := h
  exact ho.lt
theorem MJ.new (w : World) : MJ (w.alloc (.map #[] 0)) w.heap.size [] := ⟨.map [], World.ownsMap_made _ _ _ _, fun k => ⟨rfl, fun z => rfl⟩⟩
theorem MS.new (w : World) : MS (w.alloc (.map #[] 0)) w.heap.size [] := ⟨.map [], World.ownsMap_made _ _ _ _, fun k z => by rw [if_neg (by simp)]; rfl⟩

theorem MJ.put {w : World} {m : Nat} {T : List Job} (h : MJ w m T) (J : Job) (hn : T.length ≤ 1000) (hk : (Lit.int .i64 J.id).wf = true) (hf : findJ T J.id = none) :
    ∃ w', (Instr.mapUpdate 32 (.map (some m)) (.int .i64 J.id) (.agg (jc J).toArray)).run Try.prog w = .ok () w' ∧ MJ w' m (T ++ [J]) ∧ w.mapTurned w' m := by
  obtain ⟨D, ho, hD⟩ := h
  obtain ⟨w', hr, ho', ht⟩ := ho.store law3 Try.underlying32 (by unfold maxLen; omega) (key_ok hk) (val := jv J) (d := .held (jv J)) (ps := []) rfl
  refine ⟨w', hr, ⟨_, by rw [List.length_append]; exact ho', fun k => ?_⟩, ht⟩
  have hm := ho.isMap
  rw [findJ_snoc T J k hf]
  by_cases e : k = J.id
  · subst e
    rw [if_pos rfl]
    exact ⟨has_put_same hm (by trivial) _, fun z => atKey_put_same hm (by trivial) _ _⟩
  · rw [if_neg e]
    have hne : (Lit.int .i64 k : Lit) ≠ .int .i64 J.id := fun h => by injection h with _ h2; exact e h2
    exact ⟨by rw [has_put_other hne]; exact (hD k).1, fun z => by rw [atKey_put_other hne]; exact (hD k).2 z⟩
theorem MS.put {w : World} {m : Nat} {T : List Int} (h : MS w m T) (x : Int) (hn : T.length ≤ 1000) (hk : (Lit.int .i64 x).wf = true) :
    ∃ w', (Instr.mapUpdate 43 (.map (some m)) (.int .i64 x) (.bool true)).run Try.prog w = .ok () w' ∧ MS w' m (T ++ [x]) ∧ w.mapTurned w' m := by
  obtain ⟨D, ho, hD⟩ := h
  obtain ⟨w', hr, ho', ht⟩ := ho.store law3 Try.underlying43 (by unfold maxLen; omega) (key_ok hk) (val := .bool true) (d := .held (.bool true)) (ps := []) rfl
  refine ⟨w', hr, ⟨_, by rw [List.length_append]; exact ho', fun k z => ?_⟩, ht⟩
  have hm := ho.isMap
  by_cases e : k = x
  · subst e
    rw [if_pos (by simp)]
    exact atKey_put_same hm (by trivial) _ _
  · have hne : (Lit.int .i64 k : Lit) ≠ .int .i64 x := fun h => by injection h with _ h2; exact e h2
    rw [atKey_put_other hne, hD]
    by_cases h1 : k ∈ T
    · rw [if_pos h1, if_pos (by simp [h1])]
    · rw [if_neg h1, if_neg (by simp [h1, e])]

theorem zero40 (w : World) : (zeroValue 40).run Try.prog w = .ok (.agg (jc job0).toArray) w := by kernel_rfl
theorem MJ.look_some {w : World} {m : Nat} {T : List Job} (h : MJ w m T) {k : Int} (hk : (Lit.int .i64 k).wf = true) {J : Job} (hf : findJ T k = some J) :
    (Instr.lookup 32 (.map (some m)) (.int .i64 k) true).run Try.prog w = .ok (.tuple #[.agg (jc J).toArray, .bool true]) w := by
  obtain ⟨D, ho, hD⟩ := h
  obtain ⟨v, ps, h1, h2⟩ := ho.look_ok law3 Try.underlying32 (zero40 w) (zd := .held (jv job0)) (zp := []) rfl (key_ok hk)
  rw [(hD k).1, hf] at h1
  rw [(hD k).2, hf] at h2
  simp [RV] at h2
  rw [h1, h2.1]
  rfl
theorem MJ.look_one {w : World} {m : Nat} {T : List Job} (h : MJ w m T) {k : Int} (hk : (Lit.int .i64 k).wf = true) {J : Job} (hf : findJ T k = some J) :
    (Instr.lookup 32 (.map (some m)) (.int .i64 k) false).run Try.prog w = .ok (.agg (jc J).toArray) w := by
  obtain ⟨D, ho, hD⟩ := h
  obtain ⟨v, ps, h1, h2⟩ := ho.lookup law3 Try.underlying32 (zero40 w) (zd := .held (jv job0)) (zp := []) rfl (key_ok hk)
  rw [(hD k).2, hf] at h2
  simp [RV] at h2
  rw [h1, h2.1]
  rfl
theorem MJ.look_none {w : World} {m : Nat} {T : List Job} (h : MJ w m T) {k : Int} (hk : (Lit.int .i64 k).wf = true) (hf : findJ T k = none) :
    (Instr.lookup 32 (.map (some m)) (.int .i64 k) true).run Try.prog w = .ok (.tuple #[.agg (jc job0).toArray, .bool false]) w := by
  obtain ⟨D, ho, hD⟩ := h
  obtain ⟨v, ps, h1, h2⟩ := ho.look_ok law3 Try.underlying32 (zero40 w) (zd := .held (jv job0)) (zp := []) rfl (key_ok hk)
  rw [(hD k).1, hf] at h1
  rw [(hD k).2, hf] at h2
  simp [RV] at h2
  rw [h1, h2.1]
  rfl
theorem zero4 (w : World) : (zeroValue 4).run Try.prog w = .ok (.bool false) w := by kernel_rfl
theorem MS.look_no {w : World} {m : Nat} {T : List Int} (h : MS w m T) {k : Int} (hk : (Lit.int .i64 k).wf = true) (hf : k ∉ T) :
    (Instr.lookup 43 (.map (some m)) (.int .i64 k) false).run Try.prog w = .ok (.bool false) w := by
  obtain ⟨D, ho, hD⟩ := h
  obtain ⟨v, ps, h1, h2⟩ := ho.lookup law3 Try.underlying43 (zero4 w) (zd := .held (.bool false)) (zp := []) rfl (key_ok hk)
  rw [hD k, if_neg hf] at h2
  simp [RV] at h2
  rw [h1, h2.1]
end Go.Proofs.Ytflapjehkgefdaa

namespace Go.Proofs.Ytflapjehkgefdaa
open Go.RowKit
set_option linter.unusedVariables false

def bigB (cn pn ak qk k : Nat) : Bool := decide (60 < cn ∨ 60 < pn ∨ 60 < ak ∨ 60 < qk ∨ 60 < k)
set_option maxRecDepth 100000 in
set_option maxHeartbeats 1000000 in
theorem big_any (ca pa aa qa : Option Addr) (cn cc pn pc ak az qk qc : Nat) (pol : Int) (a : Option Addr) (k c : Nat) (w : World) :
    Calls Try.prog 5 #[.agg #[.slice ca cn cc, .slice pa pn pc, .slice aa ak az, .slice qa qk qc, .int .u8 pol], .slice a k c] w fun e w' => e = .returned (.bool (bigB cn pn ak qk k)) ∧ Below w.heap.size w w' := by
  have bl := below_lit w (.cells #[.slice ca cn cc, .slice pa pn pc, .slice aa ak az, .slice qa qk qc, .int .u8 pol] 28)
  by_cases h0 : 60 < cn
  · have d0 : (60 : Int) < (cn : Int) := by omega
    have hf := hid (show bigB cn pn ak qk k = true from decide_eq_true (by omega))
    go_enter Try.func5, Try.ntmps5
    go_wp2
    go_ret
    exact ⟨ret_bool hf.out.symm, bl⟩
  have d0 : ¬ (60 : Int) < (cn : Int) := by omega
  by_cases h1 : 60 < pn
  · have d1 : (60 : Int) < (pn : Int) := by omega
    have hf := hid (show bigB cn pn ak qk k = true from decide_eq_true (by omega))
    go_enter Try.func5, Try.ntmps5
    go_wp2
    go_ret
    exact ⟨ret_bool hf.out.symm, bl⟩
  have d1 : ¬ (60 : Int) < (pn : Int) := by omega
  by_cases h2 : 60 < ak
  · have d2 : (60 : Int) < (ak : Int) := by omega
    have hf := hid (show bigB cn pn ak qk k = true from decide_eq_true (by omega))
    go_enter Try.func5, Try.ntmps5
    go_wp2
    go_ret
    exact ⟨ret_bool hf.out.symm, bl⟩
  have d2 : ¬ (60 : Int) < (ak : Int) := by omega
  by_cases h3 : 60 < qk
  · have d3 : (60 : Int) < (qk : Int) := by omega
    have hf := hid (show bigB cn pn ak qk k = true from decide_eq_true (by omega))
    go_enter Try.func5, Try.ntmps5
    go_wp2
    go_ret
    exact ⟨ret_bool hf.out.symm, bl⟩
  have d3 : ¬ (60 : Int) < (qk : Int) := by omega
  by_cases h4 : 60 < k
  · have d4 : (60 : Int) < (k : Int) := by omega
    have hf := hid (show bigB cn pn ak qk k = true from decide_eq_true (by omega))
    go_enter Try.func5, Try.ntmps5
    go_wp2
    go_ret
    exact ⟨ret_bool hf.out.symm, bl⟩
  have d4 : ¬ (60 : Int) < (k : Int) := by omega
  have hf := hid (show bigB cn pn ak qk k = false from decide_eq_false (by omega))
  go_enter Try.func5, Try.ntmps5
  go_wp2
  go_ret
  exact ⟨ret_bool hf.out.symm, bl⟩

theorem pick_any (x : Int) (n : Nat) (w : World) (hn : 0 < n) (hn2 : n ≤ 4611686018427387904) :
    Calls Try.prog 10 #[.int .i64 x, .int .i64 n] w fun e w' => (∃ p : Nat, p < n ∧ e = .returned (.int .i64 p)) ∧ w' = w := by
  go_enter Try.func10, Try.ntmps10
  have h0 : ¬ (n : Int) < 1 := by omega
  go_wp2
  · rename_i hneg
    go_ret
    have h1 := Int.lt_tmod_of_pos x (show (0 : Int) < n by omega)
    refine ⟨⟨(x.tmod n + n).toNat, by omega, ret_int ?_⟩, rfl⟩
    simp [wrap64]
    omega
  · rename_i hpos
    go_ret
    have h1 := Int.tmod_lt_of_pos x (show (0 : Int) < n by omega)
    exact ⟨⟨(x.tmod n).toNat, by omega, ret_int (by simp; omega)⟩, rfl⟩

end Go.Proofs.Ytflapjehkgefdaa
