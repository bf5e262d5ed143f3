/- A region that draws its order, whatever its operations do to the world: as DrawAll, but what holds of the world may also speak of what each operation left in its slot. -/
import Derived.Test.YtflapjehkgefdaaDraw
import Derived.Test.YtflapjehkgefdaaCp2
import Derived.Test.YtflapjehkgefdaaUse
import Derived.Test.YtflapjehkgefdaaVals
import Derived.Deep.MidRow
namespace Go.Proofs.Ytflapjehkgefdaa
open Go.RowKit

section
variable {P : Program} {ops : Array Oper} {Q : Exit → Act → World → Prop} {Wd : (Nat → Bool) → (Nat → Value) → World → Prop} {Pv : Nat → Value → Prop}

def upAt (l : Array Bool) : Nat → Bool := fun i => l.getD i false

/-- What stands in the slot of an operation. -/
def valAt (ops : Array Oper) (a : Act) (i : Nat) : Value := match (ops[i]?).bind (·.dst) with | some d => a.tmps.getD d undef | none => undef
theorem valAt_of {a : Act} {i : Nat} {o : Oper} {d : Tmp} (h : ops[i]? = some o) (hd : o.dst = some d) : valAt ops a i = a.tmps.getD d undef := by simp [valAt, h, hd]
theorem valAt_no {a : Act} {i : Nat} (h : (ops[i]?).bind (·.dst) = none) : valAt ops a i = undef := by simp [valAt, h]

/-- What an operation hangs on has come up before it. -/
def Clos (ops : Array Oper) (L : Nat → Bool) : Prop := ∀ (i : Nat) (o : Oper), ops[i]? = some o → L i = true → ∀ e ∈ o.after.toList, Region.binds .any e = true → L e.on = true

theorem up_of {o : Oper} {L : Nat → Bool} (hup : ∀ e ∈ o.after.toList, Region.binds .any e = true → L e.on = true) {j : Nat} (h : (o.after.toList.any fun e => e.on == j && Region.binds .any e) = true) : L j = true := by
  obtain ⟨x, hx, hke⟩ := List.any_eq_true.1 h
  simp only [Bool.and_eq_true, beq_iff_eq] at hke
  rw [← hke.1]
  exact hup x hx hke.2

/-- Operation i hangs on j, through at most so many. -/
def needs (ops : Array Oper) : Nat → Nat → Nat → Bool
  | 0, i, j => i == j
  | n + 1, i, j => i == j || (match ops[i]? with | some o => o.after.toList.any fun e => Region.binds .any e && needs ops n e.on j | none => false)

theorem needs_up {L : Nat → Bool} (h : Clos ops L) : ∀ (n i j : Nat), needs ops n i j = true → L i = true → L j = true
  | 0, i, j, hn, hi => by simp only [needs, beq_iff_eq] at hn; rw [← hn]; exact hi
  | n + 1, i, j, hn, hi => by
    simp only [needs, Bool.or_eq_true, beq_iff_eq] at hn
    rcases hn with hn | hn
    · rw [← hn]; exact hi
    · cases ho : ops[i]? with
      | none => rw [ho] at hn; cases hn
      | some o =>
        rw [ho] at hn
        obtain ⟨e, he, h2⟩ := List.any_eq_true.1 hn
        simp only [Bool.and_eq_true] at h2
        exact needs_up h n e.on j h2.2 (h i o ho hi e he h2.1)

/-- What hangs on one that has not come up has not either. -/
theorem not_yet {L : Nat → Bool} (h : Clos ops L) (n : Nat) {i j : Nat} (hn : needs ops n i j = true) (hj : L j = false) : L i = false := by
  cases hi : L i with
  | false => rfl
  | true => rw [needs_up h n i j hn hi] at hj; cases hj

/-- What stands between two operations. -/
structure DrawnV (ops : Array Oper) (Wd : (Nat → Bool) → (Nat → Value) → World → Prop) (Pv : Nat → Value → Prop) (a0 : Act) (listed : Array Bool) (a : Act) (w : World) : Prop where
  defers : a.defers = a0.defers
  size : a.tmps.size = a0.tmps.size
  keep : ∀ s, (∀ (i : Nat) (o : Oper), ops[i]? = some o → o.dst ≠ some s) → a.tmps[s]? = a0.tmps[s]?
  val : ∀ (i : Nat) (o : Oper) (d : Tmp), ops[i]? = some o → listed.getD i false = true → o.dst = some d → Pv i (a.tmps.getD d undef)
  wd : Wd (upAt listed) (valAt ops a) w
  cl : Clos ops (upAt listed)

/-- One operation: L tells which have come up. -/
def AlvStep (P : Program) (ops : Array Oper) (Q : Exit → Act → World → Prop) (Wd : (Nat → Bool) → (Nat → Value) → World → Prop) (Pv : Nat → Value → Prop) (a0 : Act) (i : Nat) (o : Oper) : Prop :=
  ∀ (a : Act) (w : World) (L : Nat → Bool), L i = false → (∀ e ∈ o.after.toList, Region.binds .any e = true → L e.on = true) → Clos ops L → Wd L (valAt ops a) w →
    (∀ (j : Nat) (oj : Oper) (d : Tmp), (o.after.toList.any fun e => e.on == j && Region.binds .any e) = true → ops[j]? = some oj → oj.dst = some d → Pv j (a.tmps.getD d undef)) →
    (∀ s, (∀ (i : Nat) (o : Oper), ops[i]? = some o → o.dst ≠ some s) → a.tmps[s]? = a0.tmps[s]?) →
    ∀ K : Act → World → Prop, (∀ v w', (o.dst ≠ none → Pv i v) → (∀ L' V', L' i = true → (∀ j, j ≠ i → L' j = L j) → (o.dst ≠ none → V' i = v) → (∀ j, j ≠ i → V' j = valAt ops a j) → Wd L' V' w') → K (a.put o.dst v) w') → if Region.wanted o (yielded ops a.tmps) = true then Oper.wp P o a w K Q else K (a.put o.dst undef) w

def AlvSteps (P : Program) (ops : Array Oper) (Q : Exit → Act → World → Prop) (Wd : (Nat → Bool) → (Nat → Value) → World → Prop) (Pv : Nat → Value → Prop) (a0 : Act) : Nat → List Oper → Prop
  | _, [] => True
  | i, o :: r => AlvStep P ops Q Wd Pv a0 i o ∧ AlvSteps P ops Q Wd Pv a0 (i + 1) r

theorem AlvSteps.get {a0 : Act} : ∀ (l : List Oper) (k : Nat), AlvSteps P ops Q Wd Pv a0 k l → ∀ (i : Nat) (o : Oper), l[i]? = some o → AlvStep P ops Q Wd Pv a0 (k + i) o
  | [], _, _, i, o, h => by simp at h
  | x :: r, k, hs, i, o, h => by
    cases i with
    | zero => simp at h; subst h; exact hs.1
    | succ i =>
      have := AlvSteps.get r (k + 1) hs.2 i o (by simpa using h)
      rw [show k + (i + 1) = k + 1 + i by omega]; exact this

/-- Each slot is written by one operation, within the frame; each hangs on earlier ones. -/
def alvB (ops : Array Oper) (n : Nat) : Bool :=
  decide ((ops.toList.filterMap (·.dst)).Nodup) && ops.all (fun o => match o.dst with | some d => decide (d < n) | none => true) &&
  (List.range ops.size).all fun i => match ops[i]? with | some o => o.after.all fun e => !Region.binds .any e || decide (e.on < i) | none => true

theorem wp_region_alv {id : Nat} {a0 : Act} {w0 : World} (hm : P.follows .mixedOrders = true) (hB : alvB ops a0.tmps.size = true)
    (h0 : ∀ L V, (∀ j, L j = false) → Wd L V w0.drew) (hs : AlvSteps P ops Q Wd Pv a0 0 ops.toList)
    (hfin : ∀ (a : Act) (w : World), a.defers = a0.defers → a.tmps.size = a0.tmps.size → (∀ s, (∀ (i : Nat) (o : Oper), ops[i]? = some o → o.dst ≠ some s) → a.tmps[s]? = a0.tmps[s]?) → (∀ (i : Nat) (o : Oper) (d : Tmp), ops[i]? = some o → o.dst = some d → Pv i (a.tmps.getD d undef)) → (∃ L, (∀ j, j < ops.size → L j = true) ∧ Wd L (valAt ops a) w) → Q .normal a w) :
    (Code.region id ops true).wp P Q a0 w0 := by
  unfold alvB at hB
  simp only [Bool.and_eq_true, decide_eq_true_eq] at hB
  obtain ⟨⟨hnd, hin⟩, hlow⟩ := hB
  have hstep : ∀ (i : Nat) (o : Oper), ops[i]? = some o → AlvStep P ops Q Wd Pv a0 i o := fun i o hi => by
    have := AlvSteps.get ops.toList 0 hs i o (by simpa using hi)
    rwa [Nat.zero_add] at this
  have hdin : ∀ (i : Nat) (o : Oper) (d : Tmp), ops[i]? = some o → o.dst = some d → d < a0.tmps.size := fun i o d hi hd => by
    obtain ⟨hlt, rfl⟩ := Array.getElem?_eq_some_iff.1 hi
    have h1 := Array.all_eq_true.1 hin i hlt
    rw [hd] at h1
    simpa using h1
  have hback : ∀ (i : Nat) (o : Oper) (e : Edge), ops[i]? = some o → e ∈ o.after → Region.binds .any e = true → e.on < i := fun i o e hi he hb => by
    have hlt : i < ops.size := (Array.getElem?_eq_some_iff.1 hi).1
    have h1 := List.all_eq_true.1 hlow i (List.mem_range.2 hlt)
    rw [hi] at h1
    obtain ⟨k, hk, rfl⟩ := Array.mem_iff_getElem.1 he
    have h2 := Array.all_eq_true.1 h1 k hk
    rw [hb] at h2
    simpa using h2
  refine wp_region_any hm ?_
  have key : ∀ (fuel : Nat) (listed : Array Bool) (a : Act) (w : World), listed.size = ops.size → listed.toList.count true + fuel = ops.size → DrawnV ops Wd Pv a0 listed a w → wpAny P .any ops Q fuel listed a w := by
    intro fuel
    induction fuel with
    | zero =>
      intro listed a w hsz hc hD
      have hall := all_true listed.toList (by simp at hsz hc ⊢; omega)
      have hl : ∀ i, i < ops.size → listed.getD i true = true ∧ listed.getD i false = true := fun i hi => by
        have := hall i (by simpa [hsz] using hi)
        simp only [Array.getElem?_toList] at this
        simp [Array.getD_eq_getD_getElem?, this]
      refine ⟨?_, hfin a w hD.defers hD.size hD.keep (fun i o d hi hd => hD.val i o d hi (hl i (Array.getElem?_eq_some_iff.1 hi).1).2 hd) ⟨upAt listed, fun j hj => (hl j hj).2, hD.wd⟩⟩
      unfold Region.ready
      refine List.filter_eq_nil_iff.2 (fun i hi => ?_)
      rw [(hl i (List.mem_range.1 hi)).1]
      simp
    | succ fuel ih =>
      intro listed a w hsz hc hD
      refine ⟨fun hnil => ?_, fun i hi => ?_⟩
      · have hall : ∀ n i, i < n → i < ops.size → listed.getD i false = true := by
          intro n
          induction n with
          | zero => intro i hi; omega
          | succ n ihn =>
            intro i hi hlt
            rcases Nat.lt_or_ge i n with h1 | h1
            · exact ihn i h1 hlt
            · have hno := List.filter_eq_nil_iff.1 (show (List.range ops.size).filter _ = [] from hnil) i (List.mem_range.2 hlt)
              obtain ⟨o, ho⟩ : ∃ o, ops[i]? = some o := ⟨_, Array.getElem?_eq_getElem hlt⟩
              have hrdy : ((ops[i]?).map (·.after.all fun e => !Region.binds .any e || listed.getD e.on false)).getD false = true := by
                rw [ho]
                simp only [Option.map_some, Option.getD_some]
                refine Array.all_eq_true.2 (fun k hk => ?_)
                cases hb : Region.binds .any o.after[k] with
                | false => simp
                | true =>
                  have hlt2 := hback i o _ ho (Array.getElem_mem hk) hb
                  have hq : listed.getD o.after[k].on false = true := ihn o.after[k].on (by omega) (by omega)
                  rw [hq]; simp
              rw [hrdy] at hno
              have hin' : i < listed.size := by omega
              simp [Array.getD_eq_getD_getElem?, hin'] at hno ⊢
              exact hno
        exact hfin a w hD.defers hD.size hD.keep (fun i o d hi hd => hD.val i o d hi (hall (i + 1) i (by omega) (Array.getElem?_eq_some_iff.1 hi).1) hd) ⟨upAt listed, fun j hj => hall (j + 1) j (by omega) hj, hD.wd⟩
      · unfold Region.ready at hi
        obtain ⟨hir, hcond⟩ := List.mem_filter.1 hi
        have hlt := List.mem_range.1 hir
        obtain ⟨o, ho⟩ : ∃ o, ops[i]? = some o := ⟨_, Array.getElem?_eq_getElem hlt⟩
        rw [ho] at hcond
        simp only [Option.map_some, Option.getD_some, Bool.and_eq_true, Bool.not_eq_true'] at hcond
        obtain ⟨hnot, hrdy⟩ := hcond
        have hin' : i < listed.size := by omega
        have hnot' : listed[i]? = some false := by
          simp [Array.getD_eq_getD_getElem?, hin'] at hnot ⊢
          exact hnot
        have hup : ∀ e ∈ o.after.toList, Region.binds .any e = true → upAt listed e.on = true := fun e he hb => by
          obtain ⟨k, hk, rfl⟩ := Array.mem_iff_getElem.1 (Array.mem_toList_iff.1 he)
          have h2 := Array.all_eq_true.1 hrdy k hk
          rw [hb] at h2
          simpa [upAt] using h2
        refine wpOp_step ho (fun K' hK' => ?_)
        refine hstep i o ho a w (upAt listed) (by simp [upAt, Array.getD_eq_getD_getElem?, hnot']) hup hD.cl hD.wd ?_ hD.keep K' (fun v w' hv hr => hK' _ _ ?_)
        · intro j oj d hj hoj hd
          refine hD.val j oj d hoj ?_ hd
          obtain ⟨x, hx, hke⟩ := List.any_eq_true.1 hj
          simp only [Bool.and_eq_true, beq_iff_eq] at hke
          rw [← hke.1]
          exact hup x hx hke.2
        · have hgs : ∀ j, j ≠ i → (listed.setIfInBounds i true).getD j false = listed.getD j false := fun j hj => by
            simp only [Array.getD_eq_getD_getElem?, Array.getElem?_setIfInBounds_ne (Ne.symm hj)]
          have hgi : (listed.setIfInBounds i true).getD i false = true := by simp [Array.getD_eq_getD_getElem?, hin']
          refine ih _ _ _ (by simpa using hsz) ?_ ?_
          · have := count_set listed.toList i (by simpa using hnot')
            rw [Array.toList_setIfInBounds, this]
            omega
          · have hne' : ∀ j, j ≠ i → valAt ops (a.put o.dst v) j = valAt ops a j := fun j hj => by
              cases hoj : (ops[j]?).bind (·.dst) with
              | none => rw [valAt_no hoj, valAt_no hoj]
              | some d =>
                obtain ⟨oj, hj1, hj2⟩ := Option.bind_eq_some_iff.1 hoj
                rw [valAt_of hj1 hj2, valAt_of hj1 hj2]
                cases hdi : o.dst with
                | none => rfl
                | some di =>
                  have hne : di ≠ d := fun e => hj (nodup_dst ops.toList i j o oj d hnd (by simpa using ho) (by simpa using hj1) (by rw [hdi, e]) hj2).symm
                  simp only [Act.put, Array.getD_eq_getD_getElem?, Array.getElem?_setIfInBounds_ne hne]
            have hi' : o.dst ≠ none → valAt ops (a.put o.dst v) i = v := fun hn => by
              cases hdi : o.dst with
              | none => exact absurd hdi hn
              | some di =>
                have hs2 : di < a.tmps.size := by rw [hD.size]; exact hdin i o di ho hdi
                rw [valAt_of ho hdi]
                simp [Act.put, Array.getD_eq_getD_getElem?, hs2]
            have hwd := hr (upAt (listed.setIfInBounds i true)) (valAt ops (a.put o.dst v)) hgi hgs hi' hne'
            have hcl : Clos ops (upAt (listed.setIfInBounds i true)) := fun j oj hj hlj e he hb => by
              by_cases hei : e.on = i
              · rw [hei]; exact hgi
              · by_cases hji : j = i
                · subst hji
                  rw [ho] at hj
                  cases hj
                  exact (hgs _ hei).trans (hup e he hb)
                · exact (hgs _ hei).trans (hD.cl j oj hj ((hgs j hji).symm.trans hlj) e he hb)
            revert hwd
            cases hdi : o.dst with
            | none =>
              intro hwd
              refine ⟨hD.defers, hD.size, hD.keep, fun j oj d hj hlj hd => ?_, hwd, hcl⟩
              by_cases hij : j = i
              · subst hij
                rw [ho] at hj
                cases hj
                rw [hdi] at hd
                cases hd
              · rw [hgs j hij] at hlj
                exact hD.val j oj d hj hlj hd
            | some di =>
              intro hwd
              have hdlt := hdin i o di ho hdi
              refine ⟨hD.defers, by simpa [Act.put] using hD.size, fun s hns => ?_, fun j oj d hj hlj hd => ?_, hwd, hcl⟩
              · have hne : di ≠ s := fun e => hns i o ho (by rw [hdi, e])
                simp only [Act.put, Array.getElem?_setIfInBounds_ne hne]
                exact hD.keep s hns
              · by_cases hij : i = j
                · subst hij
                  rw [ho] at hj
                  cases hj
                  rw [hdi] at hd
                  cases hd
                  have hs2 : di < a.tmps.size := by rw [hD.size]; exact hdlt
                  simp [Act.put, Array.getD_eq_getD_getElem?, hs2]
                  exact hv (by rw [hdi]; simp)
                · have hne : di ≠ d := fun e => hij (nodup_dst ops.toList i j o oj d hnd (by simpa using ho) (by simpa using hj) (by rw [hdi, e]) hd)
                  rw [hgs j (Ne.symm hij)] at hlj
                  have := hD.val j oj d hj hlj hd
                  simp only [Act.put, Array.getD_eq_getD_getElem?, Array.getElem?_setIfInBounds_ne hne] at this ⊢
                  exact this
  refine key _ _ _ _ (by simp) (by simp [List.count_replicate]) ⟨rfl, rfl, fun _ _ => rfl, fun i o d hi hl _ => ?_, ?_, fun i o hi hl => ?_⟩
  · simp [Array.getD_eq_getD_getElem?, (Array.getElem?_eq_some_iff.1 hi).1] at hl
  · refine h0 _ _ (fun j => ?_)
    simp only [upAt, Array.getD_eq_getD_getElem?, Array.getElem?_replicate]
    split <;> rfl
  · simp [upAt, Array.getD_eq_getD_getElem?, (Array.getElem?_eq_some_iff.1 hi).1] at hl
end
end Go.Proofs.Ytflapjehkgefdaa

namespace Go.Proofs.Ytflapjehkgefdaa
open Go.RowKit
set_option linter.unusedVariables false
set_option linter.unusedSimpArgs false

def regAt (n : Nat) : Code → Option Code
  | .region m o d => if m == n then some (.region m o d) else none
  | .block _ c => regAt n c
  | .seq a b => match regAt n a with
    | some x => some x
    | none => regAt n b
  | .cond _ a b => match regAt n a with
    | some x => some x
    | none => regAt n b
  | .loop c => regAt n c
  | .scope c => regAt n c
  | _ => none
/-- Only the way straight on. -/
def Nrm (F : Act → World → Prop) : Exit → Act → World → Prop
  | .normal => F
  | _ => fun _ _ => False
theorem nrm_of {Q : Exit → Act → World → Prop} : ∀ e a w, Nrm (Q .normal) e a w → Q e a w := by
  intro e a w h
  cases e <;> first | exact h | exact h.elim

def Wd18 (W0 W1 W2 : World) (L : Nat → Bool) (V : Nat → Value) (w1 : World) : Prop :=
  (L 13 = false → w1 = W0) ∧ (L 13 = true → L 15 = false → w1 = W1) ∧ (L 15 = true → w1 = W2)
theorem Wd18.same {W0 W1 W2 w1 : World} {L L2 : Nat → Bool} {V V2 : Nat → Value} (h : Wd18 W0 W1 W2 L V w1) (h1 : L2 13 = L 13) (h2 : L2 15 = L 15) : Wd18 W0 W1 W2 L2 V2 w1 := by
  unfold Wd18; rw [h1, h2]; exact h
def pv18 [Inhabited Job] (g k rc x y : Nat) (d : Array Job) : Nat → Value → Prop
  | 0, v => v = .slice (some ⟨g, 0, none⟩) k rc
  | 1, v => v = .int .i64 (x : Int)
  | 2, v => v = .slice (some ⟨g, 0, none⟩) k rc
  | 3, v => v = .int .i64 (y : Int)
  | 4, v => v = .slice (some ⟨g, 0, none⟩) k rc
  | 5, v => v = .int .i64 (y : Int)
  | 6, v => v = .pointer (some ⟨g, y * 17, none⟩)
  | 7, v => v = .agg (jc d[y]!).toArray
  | 8, v => v = .slice (some ⟨g, 0, none⟩) k rc
  | 9, v => v = .int .i64 (x : Int)
  | 10, v => v = .pointer (some ⟨g, x * 17, none⟩)
  | 11, v => v = .agg (jc d[x]!).toArray
  | 12, v => v = .pointer (some ⟨g, x * 17, none⟩)
  | 13, v => True
  | 14, v => v = .pointer (some ⟨g, y * 17, none⟩)
  | 15, v => True
  | _, _ => True

set_option maxRecDepth 100000 in
set_option maxHeartbeats 4000000 in
theorem tu_r18 [Inhabited Job] {FF : Act → World → Prop} {w : World} {g k rc x y : Nat} {d : Array Job} {c0 c1 c2 c3 c4 c5 c6 c7 c8 c9 c10 c12 c15 c16 c17 c18 c19 c20 c21 c22 c23 c24 c25 c26 c27 c28 c29 c30 c31 c32 c33 c34 c35 c36 c37 c38 c39 c40 c41 c42 c43 c44 c45 c46 c47 c48 c49 c50 c51 c52 c53 c54 c55 c56 c57 c58 c59 c60 c61 c62 c63 c64 c65 c66 c67 c68 c69 c70 c71 c72 c73 c74 c75 c76 c77 c78 c79 c80 c81 c82 c83 c84 c85 c86 c87 c88 c89 c90 c91 c92 c93 c94 c95 c96 c97 c98 c99 c100 c101 c102 c103 c104 c105 c106 c107 c108 c109 c110 c111 c112 c113 c114 c115 c116 c117 c118 c119 c120 c121 c122 c123 c124 c125 c126 c127 c128 c129 c130 c131 c132 c133 c134 c135 c136 : Value}
    (hx : x < k) (hy : y < k) (hrg : Hid (∀ i, i < k → w.drew.rangeAt g (i * 17) (jc d[i]!))) (ht1 : Hid (w.drew.there g (x * 17) 17)) (ht2 : Hid ((w.drew.setCells g (x * 17) (jc d[y]!)).there g (y * 17) 17))
    (hQ : Hid (∀ (d79 d80 d81 d82 d83 d84 d85 d86 d87 d88 d89 d90 d91 d92 : Value), FF ⟨#[c0, c1, c2, c3, c4, c5, c6, c7, c8, c9, c10, .slice (some ⟨g, 0, none⟩) k rc, c12, .int .i64 (x : Int), .int .i64 (y : Int), c15, c16, c17, c18, c19, c20, c21, c22, c23, c24, c25, c26, c27, c28, c29, c30, c31, c32, c33, c34, c35, c36, c37, c38, c39, c40, c41, c42, c43, c44, c45, c46, c47, c48, c49, c50, c51, c52, c53, c54, c55, c56, c57, c58, c59, c60, c61, c62, c63, c64, c65, c66, c67, c68, c69, c70, c71, c72, c73, c74, c75, c76, c77, c78, d79, d80, d81, d82, d83, d84, d85, d86, d87, d88, d89, d90, d91, d92, c93, c94, c95, c96, c97, c98, c99, c100, c101, c102, c103, c104, c105, c106, c107, c108, c109, c110, c111, c112, c113, c114, c115, c116, c117, c118, c119, c120, c121, c122, c123, c124, c125, c126, c127, c128, c129, c130, c131, c132, c133, c134, c135, c136], []⟩ ((w.drew.setCells g (x * 17) (jc d[y]!)).setCells g (y * 17) (jc d[x]!)))) :
    Code.wp Try.prog ((Try.f4.body.bind (regAt 18)).getD .skip) (Nrm FF) ⟨#[c0, c1, c2, c3, c4, c5, c6, c7, c8, c9, c10, .slice (some ⟨g, 0, none⟩) k rc, c12, .int .i64 (x : Int), .int .i64 (y : Int), c15, c16, c17, c18, c19, c20, c21, c22, c23, c24, c25, c26, c27, c28, c29, c30, c31, c32, c33, c34, c35, c36, c37, c38, c39, c40, c41, c42, c43, c44, c45, c46, c47, c48, c49, c50, c51, c52, c53, c54, c55, c56, c57, c58, c59, c60, c61, c62, c63, c64, c65, c66, c67, c68, c69, c70, c71, c72, c73, c74, c75, c76, c77, c78, c79, c80, c81, c82, c83, c84, c85, c86, c87, c88, c89, c90, c91, c92, c93, c94, c95, c96, c97, c98, c99, c100, c101, c102, c103, c104, c105, c106, c107, c108, c109, c110, c111, c112, c113, c114, c115, c116, c117, c118, c119, c120, c121, c122, c123, c124, c125, c126, c127, c128, c129, c130, c131, c132, c133, c134, c135, c136], []⟩ w := by
  conv => arg 2; whnf
  refine wp_region_alv (Wd := Wd18 w.drew (w.drew.setCells g (x * 17) (jc d[y]!)) ((w.drew.setCells g (x * 17) (jc d[y]!)).setCells g (y * 17) (jc d[x]!))) (Pv := pv18 g k rc x y d) (by kernel_rfl) (by kernel_rfl) ?_ ?_ ?_
  · exact fun L V hL => ⟨fun _ => rfl, (fun e => by rw [hL 13] at e; cases e), (fun e => by rw [hL 15] at e; cases e)⟩
  · refine ⟨?_, ?_, ?_, ?_, ?_, ?_, ?_, ?_, ?_, ?_, ?_, ?_, ?_, ?_, ?_, ?_, trivial⟩
    · intro ac w1 L hL hup hcl hW hdd hk Kx hK
      refine yes (want_n rfl) (wp_mv _ rfl _ (get_keep (hk 11 (no_dst (by kernel_rfl))) rfl) ?_)
      exact hK _ _ (fun _ => rfl) (fun L2 V2 i1 i2 i3 i4 => hW.same (i2 13 (by decide)) (i2 15 (by decide)))
    · intro ac w1 L hL hup hcl hW hdd hk Kx hK
      refine yes (want_n rfl) (wp_mv _ rfl _ (get_keep (hk 13 (no_dst (by kernel_rfl))) rfl) ?_)
      exact hK _ _ (fun _ => rfl) (fun L2 V2 i1 i2 i3 i4 => hW.same (i2 13 (by decide)) (i2 15 (by decide)))
    · intro ac w1 L hL hup hcl hW hdd hk Kx hK
      refine yes (want_n rfl) (wp_mv _ rfl _ (get_keep (hk 11 (no_dst (by kernel_rfl))) rfl) ?_)
      exact hK _ _ (fun _ => rfl) (fun L2 V2 i1 i2 i3 i4 => hW.same (i2 13 (by decide)) (i2 15 (by decide)))
    · intro ac w1 L hL hup hcl hW hdd hk Kx hK
      refine yes (want_n rfl) (wp_mv _ rfl _ (get_keep (hk 14 (no_dst (by kernel_rfl))) rfl) ?_)
      exact hK _ _ (fun _ => rfl) (fun L2 V2 i1 i2 i3 i4 => hW.same (i2 13 (by decide)) (i2 15 (by decide)))
    · intro ac w1 L hL hup hcl hW hdd hk Kx hK
      refine yes (want_n rfl) (wp_mv _ rfl _ (get_keep (hk 11 (no_dst (by kernel_rfl))) rfl) ?_)
      exact hK _ _ (fun _ => rfl) (fun L2 V2 i1 i2 i3 i4 => hW.same (i2 13 (by decide)) (i2 15 (by decide)))
    · intro ac w1 L hL hup hcl hW hdd hk Kx hK
      refine yes (want_n rfl) (wp_mv _ rfl _ (get_keep (hk 14 (no_dst (by kernel_rfl))) rfl) ?_)
      exact hK _ _ (fun _ => rfl) (fun L2 V2 i1 i2 i3 i4 => hW.same (i2 13 (by decide)) (i2 15 (by decide)))
    · intro ac w1 L hL hup hcl hW hdd hk Kx hK
      have e83 : ac.tmps[83]?.getD undef = (.slice (some ⟨g, 0, none⟩) k rc : Value) := slot (hdd 4 _ 83 rfl rfl rfl)
      have e84 : ac.tmps[84]?.getD undef = (.int .i64 (y : Int) : Value) := slot (hdd 5 _ 84 rfl rfl rfl)
      have j1 : (y : Int) < (k : Int) := by omega
      refine yes (want_n rfl) ?_
      have hv := hid (hK (.pointer (some ⟨g, y * 17, none⟩)) w1 (fun _ => rfl) (fun L2 V2 i1 i2 i3 i4 => hW.same (i2 13 (by decide)) (i2 15 (by decide))))
      clear hK hW hL hup hdd hk hcl
      go_simp
      exact kq hv.out rfl
    · intro ac w1 L hL hup hcl hW hdd hk Kx hK
      have h13 : L 13 = false := not_yet hcl 1 (j := 7) (by kernel_rfl) hL
      have hw1 := hW.1 h13
      subst hw1
      refine yes (want_n rfl) (wp_load_mid 40 _ rfl g (y * 17) (hdd 6 _ 85 rfl rfl rfl) (jc d[y]!) _ (hrg.out y (by omega)) Try.underlying40 rfl (by kernel_rfl) ?_)
      exact hK _ _ (fun _ => rfl) (fun L2 V2 i1 i2 i3 i4 => hW.same (i2 13 (by decide)) (i2 15 (by decide)))
    · intro ac w1 L hL hup hcl hW hdd hk Kx hK
      refine yes (want_n rfl) (wp_mv _ rfl _ (get_keep (hk 11 (no_dst (by kernel_rfl))) rfl) ?_)
      exact hK _ _ (fun _ => rfl) (fun L2 V2 i1 i2 i3 i4 => hW.same (i2 13 (by decide)) (i2 15 (by decide)))
    · intro ac w1 L hL hup hcl hW hdd hk Kx hK
      refine yes (want_n rfl) (wp_mv _ rfl _ (get_keep (hk 13 (no_dst (by kernel_rfl))) rfl) ?_)
      exact hK _ _ (fun _ => rfl) (fun L2 V2 i1 i2 i3 i4 => hW.same (i2 13 (by decide)) (i2 15 (by decide)))
    · intro ac w1 L hL hup hcl hW hdd hk Kx hK
      have e87 : ac.tmps[87]?.getD undef = (.slice (some ⟨g, 0, none⟩) k rc : Value) := slot (hdd 8 _ 87 rfl rfl rfl)
      have e88 : ac.tmps[88]?.getD undef = (.int .i64 (x : Int) : Value) := slot (hdd 9 _ 88 rfl rfl rfl)
      have j1 : (x : Int) < (k : Int) := by omega
      refine yes (want_n rfl) ?_
      have hv := hid (hK (.pointer (some ⟨g, x * 17, none⟩)) w1 (fun _ => rfl) (fun L2 V2 i1 i2 i3 i4 => hW.same (i2 13 (by decide)) (i2 15 (by decide))))
      clear hK hW hL hup hdd hk hcl
      go_simp
      exact kq hv.out rfl
    · intro ac w1 L hL hup hcl hW hdd hk Kx hK
      have h13 : L 13 = false := not_yet hcl 1 (j := 11) (by kernel_rfl) hL
      have hw1 := hW.1 h13
      subst hw1
      refine yes (want_n rfl) (wp_load_mid 40 _ rfl g (x * 17) (hdd 10 _ 89 rfl rfl rfl) (jc d[x]!) _ (hrg.out x (by omega)) Try.underlying40 rfl (by kernel_rfl) ?_)
      exact hK _ _ (fun _ => rfl) (fun L2 V2 i1 i2 i3 i4 => hW.same (i2 13 (by decide)) (i2 15 (by decide)))
    · intro ac w1 L hL hup hcl hW hdd hk Kx hK
      have e79 : ac.tmps[79]?.getD undef = (.slice (some ⟨g, 0, none⟩) k rc : Value) := slot (hdd 0 _ 79 rfl rfl rfl)
      have e80 : ac.tmps[80]?.getD undef = (.int .i64 (x : Int) : Value) := slot (hdd 1 _ 80 rfl rfl rfl)
      have j1 : (x : Int) < (k : Int) := by omega
      refine yes (want_n rfl) ?_
      have hv := hid (hK (.pointer (some ⟨g, x * 17, none⟩)) w1 (fun _ => rfl) (fun L2 V2 i1 i2 i3 i4 => hW.same (i2 13 (by decide)) (i2 15 (by decide))))
      clear hK hW hL hup hdd hk hcl
      go_simp
      exact kq hv.out rfl
    · intro ac w1 L hL hup hcl hW hdd hk Kx hK
      have h15 : L 15 = false := not_yet hcl 1 (j := 13) (by kernel_rfl) hL
      have hw1 := hW.1 hL
      subst hw1
      refine yes (want_n rfl) (wp_store_mid 40 _ _ rfl g (x * 17) (jc d[y]!).toArray (hdd 12 _ 91 rfl rfl rfl) (hdd 7 _ 86 rfl rfl rfl) ht1.out (by kernel_rfl) (jc_all _) ?_)
      exact hK _ _ (fun h => absurd rfl h) (fun L2 V2 i1 i2 i3 i4 => ⟨(fun e => by rw [i1] at e; cases e), (fun _ _ => rfl), (fun e => by rw [i2 15 (by decide), h15] at e; cases e)⟩)
    · intro ac w1 L hL hup hcl hW hdd hk Kx hK
      have e81 : ac.tmps[81]?.getD undef = (.slice (some ⟨g, 0, none⟩) k rc : Value) := slot (hdd 2 _ 81 rfl rfl rfl)
      have e82 : ac.tmps[82]?.getD undef = (.int .i64 (y : Int) : Value) := slot (hdd 3 _ 82 rfl rfl rfl)
      have j1 : (y : Int) < (k : Int) := by omega
      refine yes (want_n rfl) ?_
      have hv := hid (hK (.pointer (some ⟨g, y * 17, none⟩)) w1 (fun _ => rfl) (fun L2 V2 i1 i2 i3 i4 => hW.same (i2 13 (by decide)) (i2 15 (by decide))))
      clear hK hW hL hup hdd hk hcl
      go_simp
      exact kq hv.out rfl
    · intro ac w1 L hL hup hcl hW hdd hk Kx hK
      have h13 : L 13 = true := up_of hup (by kernel_rfl)
      have hw1 := hW.2.1 h13 hL
      subst hw1
      refine yes (want_n rfl) (wp_store_mid 40 _ _ rfl g (y * 17) (jc d[x]!).toArray (hdd 14 _ 92 rfl rfl rfl) (hdd 11 _ 90 rfl rfl rfl) ht2.out (by kernel_rfl) (jc_all _) ?_)
      exact hK _ _ (fun h => absurd rfl h) (fun L2 V2 i1 i2 i3 i4 => ⟨(fun e => by rw [i2 13 (by decide), h13] at e; cases e), (fun _ e => by rw [i1] at e; cases e), (fun _ => rfl)⟩)
  · intro ac w1 hdf hsz hkp hval hW
    obtain ⟨L, hall, hW⟩ := hW
    have hw1 := hW.2.2 (hall 15 (by decide))
    subst hw1
    obtain ⟨ff, hf⟩ : ∃ ff, ff = fun d => ac.tmps.getD d undef := ⟨_, rfl⟩
    have hfa := act_filled hdf hsz hkp
    rw [← hf] at hfa
    rw [hfa]
    clear hdf hsz hkp hval hfa hf hW
    clear ac
    simp only [fillAll, List.set_cons_zero, List.set_cons_succ]
    exact hQ.out _ _ _ _ _ _ _ _ _ _ _ _ _ _
end Go.Proofs.Ytflapjehkgefdaa
