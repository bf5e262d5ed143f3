/- A region that draws its order, whatever its operations do to the world: as DrawAll, but what holds of the world may also speak of what each operation left in its slot. -/
import Derived.Test.YtflapjehkgefdaaGreatDraw
import Derived.Test.YtflapjehkgefdaaGreatCp2
import Derived.Test.YtflapjehkgefdaaGreatUse
import Derived.Test.YtflapjehkgefdaaGreatVals
import Derived.Deep.MidRow
import Derived.Laws.OwnMore
import Derived.Test.YtflapjehkgefdaaGreatPi
import Derived.Test.YtflapjehkgefdaaGreatOr1
import Derived.Test.YtflapjehkgefdaaGreatOr5
namespace Go.Proofs.YtflapjehkgefdaaGreat
open Go.RowKit

section
variable {P : Program} {ops : Array Oper} {Q : Exit → Act → World → Prop} {Wd : (Nat → Bool) → (Nat → Value) → World → Prop} {Pv : Nat → Value → Prop}

def upAt (l : Array Bool) : Nat → Bool := fun i => l.getD i false

/-- What stands in the slot of an operation. -/
def valAt (ops : Array Oper) (a : Act) (i : Nat) : Value := match (ops[i]?).bind (·.dst) with | some d => a.tmps.getD d undef | none => undef
theorem valAt_of {a : Act} {i : Nat} {o : Oper} {d : Tmp} (h : ops[i]? = some o) (hd : o.dst = some d) : valAt ops a i = a.tmps.getD d undef := by simp [valAt, h, hd]
theorem valAt_no {a : Act} {i : Nat} (h : (ops[i]?).bind (·.dst) = none) : valAt ops a i = undef := by simp [valAt, h]

/-- What an operation hangs on has come up before it. -/
def Clos (ops : Array Oper) (L : Nat → Bool) : Prop := ∀ (i : Nat) (o : Oper), ops[i]? = some o → L i = true → ∀ e ∈ o.after.toList, Region.binds .any e = true → L e.on = true

theorem up_of {o : Oper} {L : Nat → Bool} (hup : ∀ e ∈ o.after.toList, Region.binds .any e = true → L e.on = true) {j : Nat} (h : (o.after.toList.any fun e => e.on == j && Region.binds .any e) = true) : L j = true := by
  obtain ⟨x, hx, hke⟩ := List.any_eq_true.1 h
  simp only [Bool.and_eq_true, beq_iff_eq] at hke
  rw [← hke.1]
  exact hup x hx hke.2

/-- Operation i hangs on j, through at most so many. -/
def needs (ops : Array Oper) : Nat → Nat → Nat → Bool
  | 0, i, j => i == j
  | n + 1, i, j => i == j || (match ops[i]? with | some o => o.after.toList.any fun e => Region.binds .any e && needs ops n e.on j | none => false)

theorem needs_up {L : Nat → Bool} (h : Clos ops L) : ∀ (n i j : Nat), needs ops n i j = true → L i = true → L j = true
  | 0, i, j, hn, hi => by simp only [needs, beq_iff_eq] at hn; rw [← hn]; exact hi
  | n + 1, i, j, hn, hi => by
    simp only [needs, Bool.or_eq_true, beq_iff_eq] at hn
    rcases hn with hn | hn
    · rw [← hn]; exact hi
    · cases ho : ops[i]? with
      | none => rw [ho] at hn; cases hn
      | some o =>
        rw [ho] at hn
        obtain ⟨e, he, h2⟩ := List.any_eq_true.1 hn
        simp only [Bool.and_eq_true] at h2
        exact needs_up h n e.on j h2.2 (h i o ho hi e he h2.1)

/-- What hangs on one that has not come up has not either. -/
theorem not_yet {L : Nat → Bool} (h : Clos ops L) (n : Nat) {i j : Nat} (hn : needs ops n i j = true) (hj : L j = false) : L i = false := by
  cases hi : L i with
  | false => rfl
  | true => rw [needs_up h n i j hn hi] at hj; cases hj

/-- What stands between two operations. -/
structure DrawnV (ops : Array Oper) (Wd : (Nat → Bool) → (Nat → Value) → World → Prop) (Pv : Nat → Value → Prop) (a0 : Act) (listed : Array Bool) (a : Act) (w : World) : Prop where
  defers : a.defers = a0.defers
  size : a.tmps.size = a0.tmps.size
  keep : ∀ s, (∀ (i : Nat) (o : Oper), ops[i]? = some o → o.dst ≠ some s) → a.tmps[s]? = a0.tmps[s]?
  val : ∀ (i : Nat) (o : Oper) (d : Tmp), ops[i]? = some o → listed.getD i false = true → o.dst = some d → Pv i (a.tmps.getD d undef)
  wd : Wd (upAt listed) (valAt ops a) w
  cl : Clos ops (upAt listed)

/-- One operation: L tells which have come up. -/
def AlvStep (P : Program) (ops : Array Oper) (Q : Exit → Act → World → Prop) (Wd : (Nat → Bool) → (Nat → Value) → World → Prop) (Pv : Nat → Value → Prop) (a0 : Act) (i : Nat) (o : Oper) : Prop :=
  ∀ (a : Act) (w : World) (L : Nat → Bool), L i = false → (∀ e ∈ o.after.toList, Region.binds .any e = true → L e.on = true) → Clos ops L → Wd L (valAt ops a) w →
    (∀ (j : Nat) (oj : Oper) (d : Tmp), (o.after.toList.any fun e => e.on == j && Region.binds .any e) = true → ops[j]? = some oj → oj.dst = some d → Pv j (a.tmps.getD d undef)) →
    (∀ s, (∀ (i : Nat) (o : Oper), ops[i]? = some o → o.dst ≠ some s) → a.tmps[s]? = a0.tmps[s]?) →
    ∀ K : Act → World → Prop, (∀ v w', (o.dst ≠ none → Pv i v) → (∀ L' V', L' i = true → (∀ j, j ≠ i → L' j = L j) → (o.dst ≠ none → V' i = v) → (∀ j, j ≠ i → V' j = valAt ops a j) → Wd L' V' w') → K (a.put o.dst v) w') → if Region.wanted o (yielded ops a.tmps) = true then Oper.wp P o a w K Q else K (a.put o.dst undef) w

def AlvSteps (P : Program) (ops : Array Oper) (Q : Exit → Act → World → Prop) (Wd : (Nat → Bool) → (Nat → Value) → World → Prop) (Pv : Nat → Value → Prop) (a0 : Act) : Nat → List Oper → Prop
  | _, [] => True
  | i, o :: r => AlvStep P ops Q Wd Pv a0 i o ∧ AlvSteps P ops Q Wd Pv a0 (i + 1) r

theorem AlvSteps.get {a0 : Act} : ∀ (l : List Oper) (k : Nat), AlvSteps P ops Q Wd Pv a0 k l → ∀ (i : Nat) (o : Oper), l[i]? = some o → AlvStep P ops Q Wd Pv a0 (k + i) o
  | [], _, _, i, o, h => by simp at h
  | x :: r, k, hs, i, o, h => by
    cases i with
    | zero => simp at h; subst h; exact hs.1
    | succ i =>
      have := AlvSteps.get r (k + 1) hs.2 i o (by simpa using h)
      rw [show k + (i + 1) = k + 1 + i by omega]; exact this

/-- Each slot is written by one operation, within the frame; each hangs on earlier ones. -/
def alvB (ops : Array Oper) (n : Nat) : Bool :=
  decide ((ops.toList.filterMap (·.dst)).Nodup) && ops.all (fun o => match o.dst with | some d => decide (d < n) | none => true) &&
  (List.range ops.size).all fun i => match ops[i]? with | some o => o.after.all fun e => !Region.binds .any e || decide (e.on < i) | none => true

theorem wp_region_alv {id : Nat} {a0 : Act} {w0 : World} (hm : P.follows .mixedOrders = true) (hB : alvB ops a0.tmps.size = true)
    (h0 : ∀ L V, (∀ j, L j = false) → Wd L V w0.drew) (hs : AlvSteps P ops Q Wd Pv a0 0 ops.toList)
    (hfin : ∀ (a : Act) (w : World), a.defers = a0.defers → a.tmps.size = a0.tmps.size → (∀ s, (∀ (i : Nat) (o : Oper), ops[i]? = some o → o.dst ≠ some s) → a.tmps[s]? = a0.tmps[s]?) → (∀ (i : Nat) (o : Oper) (d : Tmp), ops[i]? = some o → o.dst = some d → Pv i (a.tmps.getD d undef)) → (∃ L, (∀ j, j < ops.size → L j = true) ∧ Wd L (valAt ops a) w) → Q .normal a w) :
    (Code.region id ops true).wp P Q a0 w0 := by
  unfold alvB at hB
  simp only [Bool.and_eq_true, decide_eq_true_eq] at hB
  obtain ⟨⟨hnd, hin⟩, hlow⟩ := hB
  have hstep : ∀ (i : Nat) (o : Oper), ops[i]? = some o → AlvStep P ops Q Wd Pv a0 i o := fun i o hi => by
    have := AlvSteps.get ops.toList 0 hs i o (by simpa using hi)
    rwa [Nat.zero_add] at this
  have hdin : ∀ (i : Nat) (o : Oper) (d : Tmp), ops[i]? = some o → o.dst = some d → d < a0.tmps.size := fun i o d hi hd => by
    obtain ⟨hlt, rfl⟩ := Array.getElem?_eq_some_iff.1 hi
    have h1 := Array.all_eq_true.1 hin i hlt
    rw [hd] at h1
    simpa using h1
  have hback : ∀ (i : Nat) (o : Oper) (e : Edge), ops[i]? = some o → e ∈ o.after → Region.binds .any e = true → e.on < i := fun i o e hi he hb => by
    have hlt : i < ops.size := (Array.getElem?_eq_some_iff.1 hi).1
    have h1 := List.all_eq_true.1 hlow i (List.mem_range.2 hlt)
    rw [hi] at h1
    obtain ⟨k, hk, rfl⟩ := Array.mem_iff_getElem.1 he
    have h2 := Array.all_eq_true.1 h1 k hk
    rw [hb] at h2
    simpa using h2
  refine wp_region_any hm ?_
  have key : ∀ (fuel : Nat) (listed : Array Bool) (a : Act) (w : World), listed.size = ops.size → listed.toList.count true + fuel = ops.size → DrawnV ops Wd Pv a0 listed a w → wpAny P .any ops Q fuel listed a w := by
    intro fuel
    induction fuel with
    | zero =>
      intro listed a w hsz hc hD
      have hall := all_true listed.toList (by simp at hsz hc ⊢; omega)
      have hl : ∀ i, i < ops.size → listed.getD i true = true ∧ listed.getD i false = true := fun i hi => by
        have := hall i (by simpa [hsz] using hi)
        simp only [Array.getElem?_toList] at this
        simp [Array.getD_eq_getD_getElem?, this]
      refine ⟨?_, hfin a w hD.defers hD.size hD.keep (fun i o d hi hd => hD.val i o d hi (hl i (Array.getElem?_eq_some_iff.1 hi).1).2 hd) ⟨upAt listed, fun j hj => (hl j hj).2, hD.wd⟩⟩
      unfold Region.ready
      refine List.filter_eq_nil_iff.2 (fun i hi => ?_)
      rw [(hl i (List.mem_range.1 hi)).1]
      simp
    | succ fuel ih =>
      intro listed a w hsz hc hD
      refine ⟨fun hnil => ?_, fun i hi => ?_⟩
      · have hall : ∀ n i, i < n → i < ops.size → listed.getD i false = true := by
          intro n
          induction n with
          | zero => intro i hi; omega
          | succ n ihn =>
            intro i hi hlt
            rcases Nat.lt_or_ge i n with h1 | h1
            · exact ihn i h1 hlt
            · have hno := List.filter_eq_nil_iff.1 (show (List.range ops.size).filter _ = [] from hnil) i (List.mem_range.2 hlt)
              obtain ⟨o, ho⟩ : ∃ o, ops[i]? = some o := ⟨_, Array.getElem?_eq_getElem hlt⟩
              have hrdy : ((ops[i]?).map (·.after.all fun e => !Region.binds .any e || listed.getD e.on false)).getD false = true := by
                rw [ho]
                simp only [Option.map_some, Option.getD_some]
                refine Array.all_eq_true.2 (fun k hk => ?_)
                cases hb : Region.binds .any o.after[k] with
                | false => simp
                | true =>
                  have hlt2 := hback i o _ ho (Array.getElem_mem hk) hb
                  have hq : listed.getD o.after[k].on false = true := ihn o.after[k].on (by omega) (by omega)
                  rw [hq]; simp
              rw [hrdy] at hno
              have hin' : i < listed.size := by omega
              simp [Array.getD_eq_getD_getElem?, hin'] at hno ⊢
              exact hno
        exact hfin a w hD.defers hD.size hD.keep (fun i o d hi hd => hD.val i o d hi (hall (i + 1) i (by omega) (Array.getElem?_eq_some_iff.1 hi).1) hd) ⟨upAt listed, fun j hj => hall (j + 1) j (by omega) hj, hD.wd⟩
      · unfold Region.ready at hi
        obtain ⟨hir, hcond⟩ := List.mem_filter.1 hi
        have hlt := List.mem_range.1 hir
        obtain ⟨o, ho⟩ : ∃ o, ops[i]? = some o := ⟨_, Array.getElem?_eq_getElem hlt⟩
        rw [ho] at hcond
        simp only [Option.map_some, Option.getD_some, Bool.and_eq_true, Bool.not_eq_true'] at hcond
        obtain ⟨hnot, hrdy⟩ := hcond
        have hin' : i < listed.size := by omega
        have hnot' : listed[i]? = some false := by
          simp [Array.getD_eq_getD_getElem?, hin'] at hnot ⊢
          exact hnot
        have hup : ∀ e ∈ o.after.toList, Region.binds .any e = true → upAt listed e.on = true := fun e he hb => by
          obtain ⟨k, hk, rfl⟩ := Array.mem_iff_getElem.1 (Array.mem_toList_iff.1 he)
          have h2 := Array.all_eq_true.1 hrdy k hk
          rw [hb] at h2
          simpa [upAt] using h2
        refine wpOp_step ho (fun K' hK' => ?_)
        refine hstep i o ho a w (upAt listed) (by simp [upAt, Array.getD_eq_getD_getElem?, hnot']) hup hD.cl hD.wd ?_ hD.keep K' (fun v w' hv hr => hK' _ _ ?_)
        · intro j oj d hj hoj hd
          refine hD.val j oj d hoj ?_ hd
          obtain ⟨x, hx, hke⟩ := List.any_eq_true.1 hj
          simp only [Bool.and_eq_true, beq_iff_eq] at hke
          rw [← hke.1]
          exact hup x hx hke.2
        · have hgs : ∀ j, j ≠ i → (listed.setIfInBounds i true).getD j false = listed.getD j false := fun j hj => by
            simp only [Array.getD_eq_getD_getElem?, Array.getElem?_setIfInBounds_ne (Ne.symm hj)]
          have hgi : (listed.setIfInBounds i true).getD i false = true := by simp [Array.getD_eq_getD_getElem?, hin']
          refine ih _ _ _ (by simpa using hsz) ?_ ?_
          · have := count_set listed.toList i (by simpa using hnot')
            rw [Array.toList_setIfInBounds, this]
            omega
          · have hne' : ∀ j, j ≠ i → valAt ops (a.put o.dst v) j = valAt ops a j := fun j hj => by
              cases hoj : (ops[j]?).bind (·.dst) with
              | none => rw [valAt_no hoj, valAt_no hoj]
              | some d =>
                obtain ⟨oj, hj1, hj2⟩ := Option.bind_eq_some_iff.1 hoj
                rw [valAt_of hj1 hj2, valAt_of hj1 hj2]
                cases hdi : o.dst with
                | none => rfl
                | some di =>
                  have hne : di ≠ d := fun e => hj (nodup_dst ops.toList i j o oj d hnd (by simpa using ho) (by simpa using hj1) (by rw [hdi, e]) hj2).symm
                  simp only [Act.put, Array.getD_eq_getD_getElem?, Array.getElem?_setIfInBounds_ne hne]
            have hi' : o.dst ≠ none → valAt ops (a.put o.dst v) i = v := fun hn => by
              cases hdi : o.dst with
              | none => exact absurd hdi hn
              | some di =>
                have hs2 : di < a.tmps.size := by rw [hD.size]; exact hdin i o di ho hdi
                rw [valAt_of ho hdi]
                simp [Act.put, Array.getD_eq_getD_getElem?, hs2]
            have hwd := hr (upAt (listed.setIfInBounds i true)) (valAt ops (a.put o.dst v)) hgi hgs hi' hne'
            have hcl : Clos ops (upAt (listed.setIfInBounds i true)) := fun j oj hj hlj e he hb => by
              by_cases hei : e.on = i
              · rw [hei]; exact hgi
              · by_cases hji : j = i
                · subst hji
                  rw [ho] at hj
                  cases hj
                  exact (hgs _ hei).trans (hup e he hb)
                · exact (hgs _ hei).trans (hD.cl j oj hj ((hgs j hji).symm.trans hlj) e he hb)
            revert hwd
            cases hdi : o.dst with
            | none =>
              intro hwd
              refine ⟨hD.defers, hD.size, hD.keep, fun j oj d hj hlj hd => ?_, hwd, hcl⟩
              by_cases hij : j = i
              · subst hij
                rw [ho] at hj
                cases hj
                rw [hdi] at hd
                cases hd
              · rw [hgs j hij] at hlj
                exact hD.val j oj d hj hlj hd
            | some di =>
              intro hwd
              have hdlt := hdin i o di ho hdi
              refine ⟨hD.defers, by simpa [Act.put] using hD.size, fun s hns => ?_, fun j oj d hj hlj hd => ?_, hwd, hcl⟩
              · have hne : di ≠ s := fun e => hns i o ho (by rw [hdi, e])
                simp only [Act.put, Array.getElem?_setIfInBounds_ne hne]
                exact hD.keep s hns
              · by_cases hij : i = j
                · subst hij
                  rw [ho] at hj
                  cases hj
                  rw [hdi] at hd
                  cases hd
                  have hs2 : di < a.tmps.size := by rw [hD.size]; exact hdlt
                  simp [Act.put, Array.getD_eq_getD_getElem?, hs2]
                  exact hv (by rw [hdi]; simp)
                · have hne : di ≠ d := fun e => hij (nodup_dst ops.toList i j o oj d hnd (by simpa using ho) (by simpa using hj) (by rw [hdi, e]) hd)
                  rw [hgs j (Ne.symm hij)] at hlj
                  have := hD.val j oj d hj hlj hd
                  simp only [Act.put, Array.getD_eq_getD_getElem?, Array.getElem?_setIfInBounds_ne hne] at this ⊢
                  exact this
  refine key _ _ _ _ (by simp) (by simp [List.count_replicate]) ⟨rfl, rfl, fun _ _ => rfl, fun i o d hi hl _ => ?_, ?_, fun i o hi hl => ?_⟩
  · simp [Array.getD_eq_getD_getElem?, (Array.getElem?_eq_some_iff.1 hi).1] at hl
  · refine h0 _ _ (fun j => ?_)
    simp only [upAt, Array.getD_eq_getD_getElem?, Array.getElem?_replicate]
    split <;> rfl
  · simp [upAt, Array.getD_eq_getD_getElem?, (Array.getElem?_eq_some_iff.1 hi).1] at hl
end
end Go.Proofs.YtflapjehkgefdaaGreat

namespace Go.Proofs.YtflapjehkgefdaaGreat
open Go.RowKit
set_option linter.unusedVariables false
set_option linter.unusedSimpArgs false

def regAt (n : Nat) : Code → Option Code
  | .region m o d => if m == n then some (.region m o d) else none
  | .block _ c => regAt n c
  | .seq a b => match regAt n a with
    | some x => some x
    | none => regAt n b
  | .cond _ a b => match regAt n a with
    | some x => some x
    | none => regAt n b
  | .loop c => regAt n c
  | .scope c => regAt n c
  | _ => none
/-- Only the way straight on. -/
def Nrm (F : Act → World → Prop) : Exit → Act → World → Prop
  | .normal => F
  | _ => fun _ _ => False
theorem nrm_of {Q : Exit → Act → World → Prop} : ∀ e a w, Nrm (Q .normal) e a w → Q e a w := by
  intro e a w h
  cases e <;> first | exact h | exact h.elim


/-- The two stores of a swap. -/
def Wd10 (W0 W1 W2 : World) (L : Nat → Bool) (V : Nat → Value) (w1 : World) : Prop :=
  (L 15 = false → w1 = W0) ∧ (L 15 = true → L 17 = false → w1 = W1) ∧ (L 17 = true → w1 = W2)
theorem Wd10.same {W0 W1 W2 w1 : World} {L L2 : Nat → Bool} {V V2 : Nat → Value} (h : Wd10 W0 W1 W2 L V w1) (h1 : L2 15 = L 15) (h2 : L2 17 = L 17) : Wd10 W0 W1 W2 L2 V2 w1 := by
  unfold Wd10; rw [h1, h2]; exact h
def pv10 (g k rc x y : Nat) (d : Nat → Job) : Nat → Value → Prop
  | 0, v => v = .slice (some ⟨g, 0, none⟩) k rc
  | 1, v => v = .int .i64 (y : Int)
  | 2, v => v = .slice (some ⟨g, 0, none⟩) k rc
  | 3, v => v = .int .i64 (y : Int)
  | 4, v => v = .int .i64 (x : Int)
  | 5, v => v = .slice (some ⟨g, 0, none⟩) k rc
  | 6, v => v = .int .i64 (y : Int)
  | 7, v => v = .int .i64 (x : Int)
  | 8, v => v = .pointer (some ⟨g, x * 17, none⟩)
  | 9, v => v = .agg (jc (d x)).toArray
  | 10, v => v = .slice (some ⟨g, 0, none⟩) k rc
  | 11, v => v = .int .i64 (y : Int)
  | 12, v => v = .pointer (some ⟨g, y * 17, none⟩)
  | 13, v => v = .agg (jc (d y)).toArray
  | 14, v => v = .pointer (some ⟨g, y * 17, none⟩)
  | 15, v => True
  | 16, v => v = .pointer (some ⟨g, x * 17, none⟩)
  | 17, v => True
  | _, _ => True

set_option maxRecDepth 100000 in
set_option maxHeartbeats 4000000 in
theorem rq_r10 {FF : Act → World → Prop} {w : World} {g k rc x y : Nat} {d : Nat → Job} {c0 c1 c2 c3 c4 c6 c8 c9 c10 c11 c12 c13 c14 c15 c16 c17 c18 c19 c20 c21 c22 c23 c24 c25 c26 c27 c28 c29 c30 c31 c32 c33 c34 c35 c36 c37 c38 c39 c40 c41 c42 c43 c44 c45 c46 c47 c48 c49 c50 c51 c52 c53 c54 c55 c56 c57 c58 c59 c60 c61 c62 c63 c64 c65 c66 c67 c68 c69 c70 c71 c72 c73 c74 c75 c76 c77 c78 c79 : Value}
    (hxy : Hid (y = x + 1)) (hy : y < k) (hk : k ≤ 200000) (hrg : Hid (∀ i, i < k → w.drew.rangeAt g (i * 17) (jc (d i)))) (ht1 : Hid (w.drew.there g (y * 17) 17)) (ht2 : Hid ((w.drew.setCells g (y * 17) (jc (d x))).there g (x * 17) 17))
    (hQ : Hid (∀ (d49 d50 d51 d52 d53 d54 d55 d56 d57 d58 d59 d60 d61 d62 d63 d64 : Value), FF ⟨#[c0, c1, c2, c3, c4, .slice (some ⟨g, 0, none⟩) k rc, c6, .int .i64 (y : Int), c8, c9, c10, c11, c12, c13, c14, c15, c16, c17, c18, c19, c20, c21, c22, c23, c24, c25, c26, c27, c28, c29, c30, c31, c32, c33, c34, c35, c36, c37, c38, c39, c40, c41, c42, c43, c44, c45, c46, c47, c48, d49, d50, d51, d52, d53, d54, d55, d56, d57, d58, d59, d60, d61, d62, d63, d64, c65, c66, c67, c68, c69, c70, c71, c72, c73, c74, c75, c76, c77, c78, c79], []⟩ ((w.drew.setCells g (y * 17) (jc (d x))).setCells g (x * 17) (jc (d y))))) :
    Code.wp Tryz.prog ((Tryz.f12.body.bind (regAt 10)).getD .skip) (Nrm FF) ⟨#[c0, c1, c2, c3, c4, .slice (some ⟨g, 0, none⟩) k rc, c6, .int .i64 (y : Int), c8, c9, c10, c11, c12, c13, c14, c15, c16, c17, c18, c19, c20, c21, c22, c23, c24, c25, c26, c27, c28, c29, c30, c31, c32, c33, c34, c35, c36, c37, c38, c39, c40, c41, c42, c43, c44, c45, c46, c47, c48, c49, c50, c51, c52, c53, c54, c55, c56, c57, c58, c59, c60, c61, c62, c63, c64, c65, c66, c67, c68, c69, c70, c71, c72, c73, c74, c75, c76, c77, c78, c79], []⟩ w := by
  conv => arg 2; whnf
  refine wp_region_alv (Wd := Wd10 w.drew (w.drew.setCells g (y * 17) (jc (d x))) ((w.drew.setCells g (y * 17) (jc (d x))).setCells g (x * 17) (jc (d y)))) (Pv := pv10 g k rc x y d) (by kernel_rfl) (by kernel_rfl) ?_ ?_ ?_
  · exact fun L V hL => ⟨fun _ => rfl, (fun e => by rw [hL 15] at e; cases e), (fun e => by rw [hL 17] at e; cases e)⟩
  · refine ⟨?_, ?_, ?_, ?_, ?_, ?_, ?_, ?_, ?_, ?_, ?_, ?_, ?_, ?_, ?_, ?_, ?_, ?_, trivial⟩
    · intro ac w1 L hL hup hcl hW hdd hk2 Kx hK
      refine yes (want_n rfl) (wp_mv _ rfl _ (get_keep (hk2 5 (no_dst (by kernel_rfl))) rfl) ?_)
      exact hK _ _ (fun _ => rfl) (fun L2 V2 i1 i2 i3 i4 => hW.same (i2 15 (by decide)) (i2 17 (by decide)))
    · intro ac w1 L hL hup hcl hW hdd hk2 Kx hK
      refine yes (want_n rfl) (wp_mv _ rfl _ (get_keep (hk2 7 (no_dst (by kernel_rfl))) rfl) ?_)
      exact hK _ _ (fun _ => rfl) (fun L2 V2 i1 i2 i3 i4 => hW.same (i2 15 (by decide)) (i2 17 (by decide)))
    · intro ac w1 L hL hup hcl hW hdd hk2 Kx hK
      refine yes (want_n rfl) (wp_mv _ rfl _ (get_keep (hk2 5 (no_dst (by kernel_rfl))) rfl) ?_)
      exact hK _ _ (fun _ => rfl) (fun L2 V2 i1 i2 i3 i4 => hW.same (i2 15 (by decide)) (i2 17 (by decide)))
    · intro ac w1 L hL hup hcl hW hdd hk2 Kx hK
      refine yes (want_n rfl) (wp_mv _ rfl _ (get_keep (hk2 7 (no_dst (by kernel_rfl))) rfl) ?_)
      exact hK _ _ (fun _ => rfl) (fun L2 V2 i1 i2 i3 i4 => hW.same (i2 15 (by decide)) (i2 17 (by decide)))
    · intro ac w1 L hL hup hcl hW hdd hk2 Kx hK
      have e52 : ac.tmps[52]?.getD undef = (.int .i64 (y : Int) : Value) := slot (hdd 3 _ 52 rfl rfl rfl)
      have hw : IntKind.i64.wrap ((y : Int) - 1) = (x : Int) := by have := hxy.out; rw [IntKind.wrap_i64]; omega
      refine yes (want_n rfl) ?_
      have hv := hid (hK (.int .i64 (x : Int)) w1 (fun _ => rfl) (fun L2 V2 i1 i2 i3 i4 => hW.same (i2 15 (by decide)) (i2 17 (by decide))))
      clear hK hW hL hup hdd hk2 hcl
      go_simp
      exact kq hv.out rfl
    · intro ac w1 L hL hup hcl hW hdd hk2 Kx hK
      refine yes (want_n rfl) (wp_mv _ rfl _ (get_keep (hk2 5 (no_dst (by kernel_rfl))) rfl) ?_)
      exact hK _ _ (fun _ => rfl) (fun L2 V2 i1 i2 i3 i4 => hW.same (i2 15 (by decide)) (i2 17 (by decide)))
    · intro ac w1 L hL hup hcl hW hdd hk2 Kx hK
      refine yes (want_n rfl) (wp_mv _ rfl _ (get_keep (hk2 7 (no_dst (by kernel_rfl))) rfl) ?_)
      exact hK _ _ (fun _ => rfl) (fun L2 V2 i1 i2 i3 i4 => hW.same (i2 15 (by decide)) (i2 17 (by decide)))
    · intro ac w1 L hL hup hcl hW hdd hk2 Kx hK
      have e55 : ac.tmps[55]?.getD undef = (.int .i64 (y : Int) : Value) := slot (hdd 6 _ 55 rfl rfl rfl)
      have hw : IntKind.i64.wrap ((y : Int) - 1) = (x : Int) := by have := hxy.out; rw [IntKind.wrap_i64]; omega
      refine yes (want_n rfl) ?_
      have hv := hid (hK (.int .i64 (x : Int)) w1 (fun _ => rfl) (fun L2 V2 i1 i2 i3 i4 => hW.same (i2 15 (by decide)) (i2 17 (by decide))))
      clear hK hW hL hup hdd hk2 hcl
      go_simp
      exact kq hv.out rfl
    · intro ac w1 L hL hup hcl hW hdd hk2 Kx hK
      have e54 : ac.tmps[54]?.getD undef = (.slice (some ⟨g, 0, none⟩) k rc : Value) := slot (hdd 5 _ 54 rfl rfl rfl)
      have e56 : ac.tmps[56]?.getD undef = (.int .i64 (x : Int) : Value) := slot (hdd 7 _ 56 rfl rfl rfl)
      have j1 : (x : Int) < (k : Int) := by have := hxy.out; omega
      refine yes (want_n rfl) ?_
      have hv := hid (hK (.pointer (some ⟨g, x * 17, none⟩)) w1 (fun _ => rfl) (fun L2 V2 i1 i2 i3 i4 => hW.same (i2 15 (by decide)) (i2 17 (by decide))))
      clear hK hW hL hup hdd hk2 hcl
      go_simp
      exact kq hv.out rfl
    · intro ac w1 L hL hup hcl hW hdd hk2 Kx hK
      have h15 : L 15 = false := not_yet hcl 1 (j := 9) (by kernel_rfl) hL
      have hw1 := hW.1 h15
      subst hw1
      refine yes (want_n rfl) (wp_load_mid 37 _ rfl g (x * 17) (hdd 8 _ 57 rfl rfl rfl) (jc (d x)) _ (hrg.out x (by have := hxy.out; omega)) Tryz.underlying37 rfl (by kernel_rfl) ?_)
      exact hK _ _ (fun _ => rfl) (fun L2 V2 i1 i2 i3 i4 => hW.same (i2 15 (by decide)) (i2 17 (by decide)))
    · intro ac w1 L hL hup hcl hW hdd hk2 Kx hK
      refine yes (want_n rfl) (wp_mv _ rfl _ (get_keep (hk2 5 (no_dst (by kernel_rfl))) rfl) ?_)
      exact hK _ _ (fun _ => rfl) (fun L2 V2 i1 i2 i3 i4 => hW.same (i2 15 (by decide)) (i2 17 (by decide)))
    · intro ac w1 L hL hup hcl hW hdd hk2 Kx hK
      refine yes (want_n rfl) (wp_mv _ rfl _ (get_keep (hk2 7 (no_dst (by kernel_rfl))) rfl) ?_)
      exact hK _ _ (fun _ => rfl) (fun L2 V2 i1 i2 i3 i4 => hW.same (i2 15 (by decide)) (i2 17 (by decide)))
    · intro ac w1 L hL hup hcl hW hdd hk2 Kx hK
      have e59 : ac.tmps[59]?.getD undef = (.slice (some ⟨g, 0, none⟩) k rc : Value) := slot (hdd 10 _ 59 rfl rfl rfl)
      have e60 : ac.tmps[60]?.getD undef = (.int .i64 (y : Int) : Value) := slot (hdd 11 _ 60 rfl rfl rfl)
      have j1 : (y : Int) < (k : Int) := by have := hxy.out; omega
      refine yes (want_n rfl) ?_
      have hv := hid (hK (.pointer (some ⟨g, y * 17, none⟩)) w1 (fun _ => rfl) (fun L2 V2 i1 i2 i3 i4 => hW.same (i2 15 (by decide)) (i2 17 (by decide))))
      clear hK hW hL hup hdd hk2 hcl
      go_simp
      exact kq hv.out rfl
    · intro ac w1 L hL hup hcl hW hdd hk2 Kx hK
      have h15 : L 15 = false := not_yet hcl 1 (j := 13) (by kernel_rfl) hL
      have hw1 := hW.1 h15
      subst hw1
      refine yes (want_n rfl) (wp_load_mid 37 _ rfl g (y * 17) (hdd 12 _ 61 rfl rfl rfl) (jc (d y)) _ (hrg.out y (by have := hxy.out; omega)) Tryz.underlying37 rfl (by kernel_rfl) ?_)
      exact hK _ _ (fun _ => rfl) (fun L2 V2 i1 i2 i3 i4 => hW.same (i2 15 (by decide)) (i2 17 (by decide)))
    · intro ac w1 L hL hup hcl hW hdd hk2 Kx hK
      have e49 : ac.tmps[49]?.getD undef = (.slice (some ⟨g, 0, none⟩) k rc : Value) := slot (hdd 0 _ 49 rfl rfl rfl)
      have e50 : ac.tmps[50]?.getD undef = (.int .i64 (y : Int) : Value) := slot (hdd 1 _ 50 rfl rfl rfl)
      have j1 : (y : Int) < (k : Int) := by have := hxy.out; omega
      refine yes (want_n rfl) ?_
      have hv := hid (hK (.pointer (some ⟨g, y * 17, none⟩)) w1 (fun _ => rfl) (fun L2 V2 i1 i2 i3 i4 => hW.same (i2 15 (by decide)) (i2 17 (by decide))))
      clear hK hW hL hup hdd hk2 hcl
      go_simp
      exact kq hv.out rfl
    · intro ac w1 L hL hup hcl hW hdd hk2 Kx hK
      have h17 : L 17 = false := not_yet hcl 1 (j := 15) (by kernel_rfl) hL
      have hw1 := hW.1 hL
      subst hw1
      refine yes (want_n rfl) (wp_store_mid 37 _ _ rfl g (y * 17) (jc (d x)).toArray (hdd 14 _ 63 rfl rfl rfl) (hdd 9 _ 58 rfl rfl rfl) ht1.out (by kernel_rfl) (jc_all _) ?_)
      exact hK _ _ (fun h => absurd rfl h) (fun L2 V2 i1 i2 i3 i4 => ⟨(fun e => by rw [i1] at e; cases e), (fun _ _ => rfl), (fun e => by rw [i2 17 (by decide), h17] at e; cases e)⟩)
    · intro ac w1 L hL hup hcl hW hdd hk2 Kx hK
      have e51 : ac.tmps[51]?.getD undef = (.slice (some ⟨g, 0, none⟩) k rc : Value) := slot (hdd 2 _ 51 rfl rfl rfl)
      have e53 : ac.tmps[53]?.getD undef = (.int .i64 (x : Int) : Value) := slot (hdd 4 _ 53 rfl rfl rfl)
      have j1 : (x : Int) < (k : Int) := by have := hxy.out; omega
      refine yes (want_n rfl) ?_
      have hv := hid (hK (.pointer (some ⟨g, x * 17, none⟩)) w1 (fun _ => rfl) (fun L2 V2 i1 i2 i3 i4 => hW.same (i2 15 (by decide)) (i2 17 (by decide))))
      clear hK hW hL hup hdd hk2 hcl
      go_simp
      exact kq hv.out rfl
    · intro ac w1 L hL hup hcl hW hdd hk2 Kx hK
      have h15 : L 15 = true := up_of hup (by kernel_rfl)
      have hw1 := hW.2.1 h15 hL
      subst hw1
      refine yes (want_n rfl) (wp_store_mid 37 _ _ rfl g (x * 17) (jc (d y)).toArray (hdd 16 _ 64 rfl rfl rfl) (hdd 13 _ 62 rfl rfl rfl) ht2.out (by kernel_rfl) (jc_all _) ?_)
      exact hK _ _ (fun h => absurd rfl h) (fun L2 V2 i1 i2 i3 i4 => ⟨(fun e => by rw [i2 15 (by decide), h15] at e; cases e), (fun _ e => by rw [i1] at e; cases e), (fun _ => rfl)⟩)
  · intro ac w1 hdf hsz hkp hval hW
    obtain ⟨L, hall, hW⟩ := hW
    have hw1 := hW.2.2 (hall 17 (by decide))
    subst hw1
    obtain ⟨ff, hf⟩ : ∃ ff, ff = fun d => ac.tmps.getD d undef := ⟨_, rfl⟩
    have hfa := act_filled hdf hsz hkp
    rw [← hf] at hfa
    rw [hfa]
    clear hdf hsz hkp hval hfa hf hW
    clear ac
    simp only [fillAll, List.set_cons_zero, List.set_cons_succ]
    exact hQ.out _ _ _ _ _ _ _ _ _ _ _ _ _ _ _ _
end Go.Proofs.YtflapjehkgefdaaGreat

namespace Go.Proofs.YtflapjehkgefdaaGreat
open Go.RowKit
set_option linter.unusedVariables false
set_option linter.unusedSimpArgs false

/-- A list, some of its places written over. -/
def setL : List Value → Nat → List Value → List Value
  | xs, _, [] => xs
  | xs, o, v :: r => setL (xs.set o v) (o + 1) r
theorem setL_len : ∀ (cs : List Value) (xs : List Value) (o : Nat), (setL xs o cs).length = xs.length
  | [], _, _ => rfl
  | v :: r, xs, o => by rw [setL, setL_len r, List.length_set]
theorem setL_get : ∀ (cs : List Value) (xs : List Value) (o i : Nat), o + cs.length ≤ xs.length → (setL xs o cs)[i]? = if o ≤ i ∧ i < o + cs.length then cs[i - o]? else xs[i]?
  | [], xs, o, i, _ => by rw [setL, if_neg (by simp)]
  | v :: r, xs, o, i, h => by
    rw [List.length_cons] at h
    rw [setL, setL_get r _ _ i (by rw [List.length_set]; omega), List.length_cons, List.getElem?_set]
    by_cases h1 : o + 1 ≤ i ∧ i < o + 1 + r.length
    · rw [if_pos h1, if_pos (by omega), show i - o = i - (o + 1) + 1 by omega, List.getElem?_cons_succ]
    · rw [if_neg h1]
      by_cases h2 : o = i
      · rw [if_pos h2, if_pos (by omega), if_pos (by omega), ← h2, Nat.sub_self]; rfl
      · rw [if_neg h2, if_neg (by omega)]
theorem owns_cells {base e size n g c : Nat} : ∀ (cs : List Value) {w : World} {xs : List Value} (o : Nat), w.ownsRow base e size (.slice (some ⟨g, 0, none⟩) n c) n xs → o + cs.length ≤ n * size → (w.setCells g o cs).ownsRow base e size (.slice (some ⟨g, 0, none⟩) n c) n (setL xs o cs)
  | [], _, _, _, h, _ => h
  | v :: r, w, xs, o, h, hl => by
    rw [List.length_cons] at hl
    exact owns_cells r (o + 1) (owns_put h (by omega) v) (by omega)
theorem setL_job {l : List Job} {k : Nat} (hk : k < l.length) (J : Job) : setL (l.flatMap jc) (k * 17) (jc J) = (l.set k J).flatMap jc := by
  have hlen : (l.flatMap jc).length = l.length * 17 := flat_len jc 17 jc_len l
  have hlen2 : ((l.set k J).flatMap jc).length = l.length * 17 := by rw [flat_len jc 17 jc_len, List.length_set]
  apply List.ext_getElem?
  intro i
  rw [setL_get _ _ _ i (by rw [jc_len, hlen]; omega), jc_len]
  by_cases hi : i < l.length * 17
  · have hq : i / 17 < l.length := by omega
    have e1 : i = (i / 17) * 17 + i % 17 := by omega
    have g1 := flat_get jc 17 jc_len (l.set k J) (i / 17) (i % 17) (by simpa using hq) (by omega)
    have g2 := flat_get jc 17 jc_len l (i / 17) (i % 17) hq (by omega)
    rw [← e1] at g1 g2
    rw [g1, g2, List.getElem_set]
    by_cases h1 : k = i / 17
    · rw [if_pos (by omega), if_pos h1, show i - k * 17 = i % 17 by omega]
    · rw [if_neg (by omega), if_neg h1]
  · rw [if_neg (by omega), List.getElem?_eq_none (by rw [hlen]; omega), List.getElem?_eq_none (by rw [hlen2]; omega)]
/-- A job written over in a row of one's own. -/
theorem owns_job {w : World} {base g n c k : Nat} {l : List Job} (h : w.ownsRow base 37 17 (.slice (some ⟨g, 0, none⟩) n c) n (l.flatMap jc)) (hl : l.length = n) (hk : k < n) (J : Job) :
    (w.setCells g (k * 17) (jc J)).ownsRow base 37 17 (.slice (some ⟨g, 0, none⟩) n c) n ((l.set k J).flatMap jc) := by
  rw [← setL_job (by omega) J]
  exact owns_cells _ _ h (by rw [jc_len]; omega)
theorem owns_there {w : World} {base g n c k : Nat} {l : List Job} (h : w.ownsRow base 37 17 (.slice (some ⟨g, 0, none⟩) n c) n (l.flatMap jc)) (hk : k < n) : w.there g (k * 17) 17 := fun r hr => by
  refine ⟨?_, World.ownsRow.frozenAt h _⟩
  rw [World.ownsRow.cellAt h _ (by omega), List.getElem?_eq_getElem (by rw [h.1]; omega)]
  rfl
theorem owns_range {w : World} {base g n c k : Nat} {l : List Job} (h : w.ownsRow base 37 17 (.slice (some ⟨g, 0, none⟩) n c) n (l.flatMap jc)) (hl : l.length = n) (hk : k < n) : w.rangeAt g (k * 17) (jc (jobAt l k)) := by
  have hat : JAt w (some ⟨g, 0, none⟩) l := owns_cat h
  have := hat.range (i := k) (by omega)
  rwa [Nat.zero_add] at this
theorem below_setCells {B : Nat} {a : World} {g : Nat} (hg : B ≤ g) : ∀ (cs : List Value) (o : Nat) {w : World}, Below B a w → Below B a (w.setCells g o cs)
  | [], _, _, h => h
  | v :: r, o, _, h => below_setCells hg r (o + 1) (h.setCell hg v)
theorem owns_at {w : World} {base n c : Nat} {a : Option Addr} {xs : List Value} {e size : Nat} (h : w.ownsRow base e size (.slice a n c) n xs) (hn : 0 < n) : ∃ g, a = some ⟨g, 0, none⟩ ∧ base ≤ g ∧ g < w.heap.size := by
  rcases h.2 with ⟨e, h0⟩ | ⟨g, cap, cur, e, hb, hh, _⟩
  · omega
  · injection e with e1 e2 e3
    exact ⟨g, e1, hb, (Array.getElem?_eq_some_iff.1 hh).1⟩
theorem jobAt_get {l : List Job} {i : Nat} (h : i < l.length) : l[i]? = some (jobAt l i) := by rw [List.getElem?_eq_getElem h, jobAt_eq h]
theorem jobAt_of {l : List Job} {i : Nat} {J : Job} (h : l[i]? = some J) : jobAt l i = J := by
  obtain ⟨h1, h2⟩ := List.getElem?_eq_some_iff.1 h
  rw [← jobAt_eq h1, h2]
end Go.Proofs.YtflapjehkgefdaaGreat

namespace Go.Proofs.YtflapjehkgefdaaGreat
open Go.RowKit
set_option linter.unusedVariables false
set_option linter.unusedSimpArgs false

set_option maxRecDepth 100000 in
set_option maxHeartbeats 1000000 in
theorem rprio_any (ca pa aa qa : Option Addr) (cn cc pn pc ak az qk qc : Nat) (pol : Int) (Z : List Int) (M : List (Prt × List ByteArray)) (A : List Acc) (Q : List Qu) (s : Spc) (w : World) (hC0 : CfD w ca pa aa qa cn pn pc ak az qk qc Z M A Q) :
    Calls Tryz.prog 9 #[.agg #[.slice ca cn cc, .slice pa pn pc, .slice aa ak az, .slice qa qk qc, .int .u8 pol], .agg (sc s).toArray] w (PrioT (prioP Z M A Q pol s.qos s.part) w) := by
  obtain ⟨W0, hW0⟩ : ∃ W0, W0 = ((w.alloc (.cells #[.slice ca cn cc, .slice pa pn pc, .slice aa ak az, .slice qa qk qc, .int .u8 pol] 28)).alloc (.cells (sc s).toArray 32)) := ⟨_, rfl⟩
  have bl0 := below_lit w (.cells #[.slice ca cn cc, .slice pa pn pc, .slice aa ak az, .slice qa qk qc, .int .u8 pol] 28)
  have bl1 := below_lit (w.alloc (.cells #[.slice ca cn cc, .slice pa pn pc, .slice aa ak az, .slice qa qk qc, .int .u8 pol] 28)) (.cells (sc s).toArray 32)
  have bl := bnext bl0 bl1
  have c0 : W0.heap[w.heap.size]? = some (.cells #[.slice ca cn cc, .slice pa pn pc, .slice aa ak az, .slice qa qk qc, .int .u8 pol] 28 (0, 0)) := by
    rw [hW0, bl1.block _ (by rw [size_lit]; omega)]; exact heap_alloc_new w _
  have c1 : W0.heap[w.heap.size + 1]? = some (.cells (sc s).toArray 32 (0, 0)) := by
    have := heap_alloc_new (w.alloc (.cells #[.slice ca cn cc, .slice pa pn pc, .slice aa ak az, .slice qa qk qc, .int .u8 pol] 28)) (.cells (sc s).toArray 32)
    rw [size_lit] at this
    rw [hW0]; exact this
  rw [← hW0] at bl
  have hsz : W0.heap.size = w.heap.size + 1 + 1 := by rw [hW0, size_lit, size_lit]
  clear bl0 bl1
  have hC := hC0.below bl
  clear hC0
  have v0 : W0.cell? ⟨w.heap.size, 0, none⟩ = some (.slice ca cn cc) := row_cell c0 0 _ rfl
  have v1 : W0.cell? ⟨w.heap.size, 1, none⟩ = some (.slice pa pn pc) := row_cell c0 1 _ rfl
  have v2 : W0.cell? ⟨w.heap.size, 2, none⟩ = some (.slice aa ak az) := row_cell c0 2 _ rfl
  have v3 : W0.cell? ⟨w.heap.size, 3, none⟩ = some (.slice qa qk qc) := row_cell c0 3 _ rfl
  have v4 : W0.cell? ⟨w.heap.size, 4, none⟩ = some (.int .u8 pol) := row_cell c0 4 _ rfl
  have x2 : W0.cell? ⟨w.heap.size + 1, 2, none⟩ = some (.string s.qos) := row_cell c1 2 _ rfl
  have x3 : W0.cell? ⟨w.heap.size + 1, 3, none⟩ = some (.string s.part) := row_cell c1 3 _ rfl
  have kR := rprt_any ca pa aa qa cn cc pn pc ak az qk qc pol Z M A Q W0 hC
  have hlt1 : w.heap.size + 1 < W0.heap.size := by omega
  have hlt0 : w.heap.size < W0.heap.size := by omega
  clear c0 c1
  replace bl := hid bl
  replace hW0 := hid hW0
  replace hsz := hid hsz
  cases hrc : rcB Z M A Q pol with
  | false =>
    rw [hrc] at kR
    have hf := hid (show prioP Z M A Q pol s.qos s.part = (0, 250) by unfold prioP; rw [if_pos hrc])
    replace hrc := hid hrc
    clear hC
    go_enter Tryz.func9, Tryz.ntmps9
    go_upto_region 1 with fail
    rw [← hW0.out]
    generalize hg1 : w.heap.size + 1 = g1 at *
    generalize hg0 : w.heap.size = g0 at *
    replace hg1 := hid hg1
    replace hg0 := hid hg0
    go_wp2_with fail
    refine kR.mono ?_
    clear kR
    rintro e w2 ⟨rfl, h2⟩
    have B2 := hid (bl.out.trans (h2.mono (by omega)))
    clear h2
    go_wp2
    go_ret2
    rw [hf.out]
    exact ⟨rfl, by rw [hg0.out]; exact B2.out⟩
  | true =>
    rw [hrc] at kR
    have kF := fun (W2 : World) (h2 : Below W0.heap.size W0 W2) => rpfind_any pa pn pc (M.map (·.1)) s.part W2 (by rw [List.length_map]; exact hC.c.ml) hC.c.mb (hC.c.mat.below h2)
    replace kF := hid kF
    have hml := hid hC.c.ml
    have hql := hid hC.c.ql
    have hqb := hC.c.qb
    have hmat := hid hC.c.mat
    have hqat := hid hC.c.qat
    have hqs := hid (fun k (h : k < Q.length) => rc_qual hrc h)
    have hps := hid (fun k (h : k < M.length) => rc_prio hrc h)
    have hfd : Hid (prioP Z M A Q pol s.qos s.part = match pi (M.map (·.1)) s.part, qi Q s.qos with | some i, some k => ((mAt M i).1.prio * 1001 + (quAt Q k).2.1, 0) | _, _ => (0, 141)) := hid (by unfold prioP; rw [if_neg (by rw [hrc]; decide)]; rfl)
    have hpl : ∀ i, pi (M.map (·.1)) s.part = some i → i < M.length := fun i h => by have := pi_lt h; rwa [List.length_map] at this
    have hqi := hid fun (n : Nat) => qi_is Q s.qos n
    have hqn := hid (qi_no Q s.qos)
    generalize prioP Z M A Q pol s.qos s.part = R at hfd ⊢
    generalize pi (M.map (·.1)) s.part = PI at kF hfd hpl
    replace hpl := hid hpl
    replace hrc := hid hrc
    clear hC
    go_enter Tryz.func9, Tryz.ntmps9
    go_upto_region 1 with fail
    rw [← hW0.out]
    generalize hg1 : w.heap.size + 1 = g1 at *
    generalize hg0 : w.heap.size = g0 at *
    replace hg1 := hid hg1
    replace hg0 := hid hg0
    go_wp2_with fail
    refine kR.mono ?_
    clear kR
    rintro e w2 ⟨rfl, h2⟩
    have kF2 := kF.out w2 h2
    replace v1 := stay h2 v1
    replace v3 := stay h2 v3
    replace x2 := stay h2 x2
    replace x3 := stay h2 x3
    replace hmat := hid (hmat.out.below h2)
    replace hqat := hid (hqat.out.below h2)
    have hltx := World.block_lt_of_cell? w2 _ x2
    have hltv := World.block_lt_of_cell? w2 _ v1
    have B2 := hid (bl.out.trans (h2.mono (by omega)))
    clear h2 v0 v2 v4 hlt0 hlt1 kF bl hW0
    cases PI with
    | none =>
      simp only [FRet] at kF2
      go_wp2_with fail
      refine kF2.mono ?_
      clear kF2
      rintro e w3 ⟨rfl, rfl⟩
      go_wp2_with fail
      go_loopw [8] (fun i wr => i = .int .i64 0 ∧ wr = w3) (fun _ _ => 0)
      case atStart => exact ⟨rfl, rfl⟩
      case round =>
        obtain ⟨rfl, rfl⟩ := hrel
        go_wp2
        go_ret2
        rw [hfd.out]
        exact ⟨rfl, by rw [hg0.out]; exact B2.out⟩
    | some i =>
      have hi : i < M.length := hpl.out i rfl
      simp only [FRet] at kF2
      obtain ⟨pb, po, e1⟩ := hmat.out.place (by rw [List.length_map]; omega)
      subst e1
      go_wp2_with fail
      refine kF2.mono ?_
      clear kF2
      rintro e w3 ⟨rfl, rfl⟩
      go_wp2_with fail
      go_loopw [8] (fun i wr => ∃ j : Nat, j ≤ qk ∧ i = .int .i64 (j : Int) ∧ Hid (NoneToQ Q s.qos j) ∧ Below w3.heap.size w3 wr) (fun i _ => qk - (intOf i).toNat)
      case atStart => exact ⟨0, Nat.zero_le _, rfl, hid (fun i hi => by omega), Below.refl _ _⟩
      case round =>
        obtain ⟨j, hj, rfl, hok, hb⟩ := hrel
        have y1 := stay hb v1
        have y3 := stay hb v3
        have y2 := stay hb x2
        have Bw := hid (B2.out.trans (hb.mono (by omega)))
        by_cases hlt : j < qk
        · have hjQ : j < Q.length := by rw [hql.out]; exact hlt
          obtain ⟨b, o, e⟩ := hqat.out.place (by omega)
          subst e
          obtain ⟨z0, z1, _⟩ := (hqat.out.below hb).one hjQ
          have i1 : (i : Int) < (pn : Int) := by have := hml.out; omega
          have i2 : (j : Int) < (qk : Int) := by omega
          by_cases hB : (quAt Q j).1 = s.qos
          · have hf := hid ((hqi.out j).2 ⟨hjQ, hB, hok.out⟩)
            have he := text_eq hB
            obtain ⟨_, _, u2, _⟩ := (hmat.out.below hb).one (i := i) (by rw [List.length_map]; exact hi)
            rw [mAt_fst hi] at u2
            have bp := hps.out i hi
            have bq := hqs.out j hjQ
            rw [hf.out] at hfd
            dsimp only at hfd
            replace hB := hid hB
            replace hok := hid hok
            generalize (mAt M i).1.prio = pr at *
            generalize quAt Q j = X at *
            obtain ⟨X0, X1, X2, X3⟩ := X
            dsimp only at *
            have w1' : IntKind.i64.wrap (pr * 1001) = pr * 1001 := by rw [IntKind.wrap_i64]; omega
            have w2' : IntKind.i64.wrap (pr * 1001 + X1) = pr * 1001 + X1 := by rw [IntKind.wrap_i64]; omega
            go_wp2_with fail
            go_quiet (fail)
            have dq := below_drewN (Below.refl wr.heap.size wr) nq
            have Bq := hid (Bw.out.trans (dq.mono (by have := hb.size; omega)))
            replace y1 := stay dq y1
            replace y3 := stay dq y3
            replace z1 := stay dq z1
            replace u2 := stay dq u2
            clear y2 z0
            generalize wr.drewN nq = W4 at *
            go_wp2_with fail
            go_quiet (fail)
            go_wp2
            go_ret2
            rw [hfd.out]
            exact ⟨rfl, by rw [hg0.out]; exact below_drewN Bq.out _⟩
          · have hok2 : Hid (NoneToQ Q s.qos (j + 1)) := hid fun i hi => by
              rcases Nat.lt_or_ge i j with h | h
              · exact hok.out i h
              · obtain rfl : i = j := by omega
                exact hB
            have he := text_ne hB
            replace hB := hid hB
            replace hok := hid hok
            generalize quAt Q j = X at *
            obtain ⟨X0, X1, X2, X3⟩ := X
            dsimp only at *
            go_wp2_with fail
            go_quiet (fail)
            go_wp2_with fail
            go_roundw
            case rel => exact ⟨j + 1, by omega, by go_num, hok2, below_drewN hb _⟩
            case measure => simp [intOf]; omega
        · have hje : j = qk := by omega
          subst hje
          have hf := hid (hqn.out.2 (by rw [hql.out]; exact hok.out))
          rw [hf.out] at hfd
          dsimp only at hfd
          go_wp2
          go_ret2
          rw [hfd.out]
          exact ⟨rfl, by rw [hg0.out]; exact Bw.out⟩
end Go.Proofs.YtflapjehkgefdaaGreat

namespace Go.Proofs.YtflapjehkgefdaaGreat
open Go.RowKit
set_option linter.unusedVariables false
set_option linter.unusedSimpArgs false

theorem rng_spec {w : World} {g : Nat} {t : TypeId} {fr : Nat × Nat} {J : Job} (h : w.heap[g]? = some (.cells (jc J).toArray t fr)) : w.rangeAt g 3 (sc J.s) := fun j v hv => row_cell h _ _ (by
  match j, hv with
  | 0, hv => exact hv
  | 1, hv => exact hv
  | 2, hv => exact hv
  | 3, hv => exact hv
  | 4, hv => exact hv
  | 5, hv => exact hv
  | 6, hv => exact hv
  | 7, hv => exact hv
  | j + 8, hv => simp [sc] at hv)

set_option maxRecDepth 100000 in
set_option maxHeartbeats 1000000 in
theorem rahead_any (ca pa aa qa : Option Addr) (cn cc pn pc ak az qk qc : Nat) (pol : Int) (Z : List Int) (M : List (Prt × List ByteArray)) (A : List Acc) (Q : List Qu) (J1 J2 : Job) (w : World) (hC0 : CfD w ca pa aa qa cn pn pc ak az qk qc Z M A Q) :
    Calls Tryz.prog 14 #[.agg #[.slice ca cn cc, .slice pa pn pc, .slice aa ak az, .slice qa qk qc, .int .u8 pol], .agg (jc J1).toArray, .agg (jc J2).toArray] w fun e w' => e = .returned (.bool (aheadB (prQ Z M A Q pol) (·.id) J1 J2)) ∧ Below w.heap.size w w' := by
  obtain ⟨W0, hW0⟩ : ∃ W0, W0 = ((w.alloc (.cells #[.slice ca cn cc, .slice pa pn pc, .slice aa ak az, .slice qa qk qc, .int .u8 pol] 28)).alloc (.cells (jc J1).toArray 37)).alloc (.cells (jc J2).toArray 37) := ⟨_, rfl⟩
  have bl0 := below_lit w (.cells #[.slice ca cn cc, .slice pa pn pc, .slice aa ak az, .slice qa qk qc, .int .u8 pol] 28)
  have bl1 := below_lit (w.alloc (.cells #[.slice ca cn cc, .slice pa pn pc, .slice aa ak az, .slice qa qk qc, .int .u8 pol] 28)) (.cells (jc J1).toArray 37)
  have bl2 := below_lit ((w.alloc (.cells #[.slice ca cn cc, .slice pa pn pc, .slice aa ak az, .slice qa qk qc, .int .u8 pol] 28)).alloc (.cells (jc J1).toArray 37)) (.cells (jc J2).toArray 37)
  have bl := bnext (bnext bl0 bl1) bl2
  have c0 : W0.heap[w.heap.size]? = some (.cells #[.slice ca cn cc, .slice pa pn pc, .slice aa ak az, .slice qa qk qc, .int .u8 pol] 28 (0, 0)) := by
    rw [hW0, bl2.block _ (by rw [size_lit, size_lit]; omega), bl1.block _ (by rw [size_lit]; omega)]; exact heap_alloc_new w _
  have c1 : W0.heap[w.heap.size + 1]? = some (.cells (jc J1).toArray 37 (0, 0)) := by
    have := heap_alloc_new (w.alloc (.cells #[.slice ca cn cc, .slice pa pn pc, .slice aa ak az, .slice qa qk qc, .int .u8 pol] 28)) (.cells (jc J1).toArray 37)
    rw [size_lit] at this
    rw [hW0, bl2.block _ (by rw [size_lit, size_lit]; omega)]; exact this
  have c2 : W0.heap[w.heap.size + 1 + 1]? = some (.cells (jc J2).toArray 37 (0, 0)) := by
    have := heap_alloc_new ((w.alloc (.cells #[.slice ca cn cc, .slice pa pn pc, .slice aa ak az, .slice qa qk qc, .int .u8 pol] 28)).alloc (.cells (jc J1).toArray 37)) (.cells (jc J2).toArray 37)
    rw [size_lit, size_lit] at this
    rw [hW0]; exact this
  rw [← hW0] at bl
  have hsz : W0.heap.size = w.heap.size + 1 + 1 + 1 := by rw [hW0, size_lit, size_lit, size_lit]
  clear bl0 bl1 bl2
  have hC := hid (hC0.below bl)
  clear hC0
  obtain ⟨p1, hp1⟩ : ∃ p1, p1 = prioP Z M A Q pol J1.s.qos J1.s.part := ⟨_, rfl⟩
  obtain ⟨p2, hp2⟩ : ∃ p2, p2 = prioP Z M A Q pol J2.s.qos J2.s.part := ⟨_, rfl⟩
  have hah : Hid (aheadB (prQ Z M A Q pol) (·.id) J1 J2 = (decide (p2.1 < p1.1) || (decide (p1.1 = p2.1) && decide (J1.id < J2.id)))) := hid (by rw [hp1, hp2]; rfl)
  have kP := hid fun (W : World) (hb : Below W0.heap.size W0 W) (s : Spc) => rprio_any ca pa aa qa cn cc pn pc ak az qk qc pol Z M A Q s W (hC.out.below hb)
  have kP1 := kP.out W0 (Below.refl _ _) J1.s
  rw [← hp1] at kP1
  have hr1 := hid (rng_spec c1)
  have hr2 := hid (rng_spec c2)
  have i1 : W0.cell? ⟨w.heap.size + 1, 0, none⟩ = some (.int .i64 J1.id) := row_cell c1 0 _ rfl
  have i2 : W0.cell? ⟨w.heap.size + 1 + 1, 0, none⟩ = some (.int .i64 J2.id) := row_cell c2 0 _ rfl
  clear c1 c2
  replace c0 := hid c0
  replace bl := hid bl
  replace hW0 := hid hW0
  replace hsz := hid hsz
  replace hp1 := hid hp1
  replace hp2 := hid hp2
  have lt0 : w.heap.size < W0.heap.size := by have := hsz.out; omega
  go_enter Tryz.func14, Tryz.ntmps14
  go_upto_region 1 with fail
  rw [← hW0.out]
  generalize hg2 : w.heap.size + 1 + 1 = g2 at *
  generalize hg1 : w.heap.size + 1 = g1 at *
  generalize hg0 : w.heap.size = g0 at *
  replace hg2 := hid hg2
  replace hg1 := hid hg1
  replace hg0 := hid hg0
  go_wp2_with (first
    | (refine wpList_load_row rfl 28 (.tmp 3) rfl g0 rfl 28 #[.slice ca cn cc, .slice pa pn pc, .slice aa ak az, .slice qa qk qc, .int .u8 pol] (0, 0) _ c0.out Tryz.underlying28 rfl (by kernel_rfl) ?_)
    | (refine wpList_load_mid rfl 32 (.tmp 13) rfl g1 3 rfl (sc J1.s) _ hr1.out Tryz.underlying32 rfl (by kernel_rfl) ?_))
  refine kP1.mono ?_
  clear kP1
  rintro e w2 ⟨rfl, h2⟩
  have kP2 := kP.out w2 h2 J2.s
  rw [← hp2.out] at kP2
  have c0' := hid (show w2.heap[g0]? = some (.cells #[.slice ca cn cc, .slice pa pn pc, .slice aa ak az, .slice qa qk qc, .int .u8 pol] 28 (0, 0)) by rw [h2.block _ lt0]; exact c0.out)
  have hr2' : Hid (w2.rangeAt g2 3 (sc J2.s)) := hid fun j v hv => stay h2 (hr2.out j v hv)
  have i1' := stay h2 i1
  have i2' := stay h2 i2
  have B2 := hid (bl.out.trans (h2.mono (by omega)))
  have hs2 : g0 < w2.heap.size := by have := h2.size; omega
  clear h2 i1 i2 lt0 c0
  go_wp2_with (first
    | (refine wpList_load_row rfl 28 (.tmp 3) rfl g0 rfl 28 #[.slice ca cn cc, .slice pa pn pc, .slice aa ak az, .slice qa qk qc, .int .u8 pol] (0, 0) _ c0'.out Tryz.underlying28 rfl (by kernel_rfl) ?_)
    | (refine wpList_load_mid rfl 32 (.tmp 20) rfl g2 3 rfl (sc J2.s) _ hr2'.out Tryz.underlying32 rfl (by kernel_rfl) ?_))
  refine kP2.mono ?_
  clear kP2
  rintro e w3 ⟨rfl, h3⟩
  have i1 := stay h3 i1'
  have i2 := stay h3 i2'
  have B3 := hid (B2.out.trans (h3.mono (by omega)))
  clear h3 i1' i2' c0' hs2
  obtain ⟨x, x'⟩ := p1
  obtain ⟨y, y'⟩ := p2
  dsimp only at hah ⊢
  generalize J1.id = n1 at *
  generalize J2.id = n2 at *
  clear hp1 hp2
  by_cases d1 : y < x
  · go_wp2
    go_ret
    exact ⟨ret_bool (by rw [hah.out, decide_eq_true (by omega : y < x)]; rfl), by rw [hg0.out]; exact B3.out⟩
  · by_cases d2 : x = y
    · by_cases d3 : n1 < n2
      · go_wp2
        go_ret
        exact ⟨ret_bool (by rw [hah.out, decide_eq_false (by omega : ¬ y < x), decide_eq_true (by omega : x = y), decide_eq_true (by omega : n1 < n2)]; rfl), by rw [hg0.out]; exact B3.out⟩
      · go_wp2
        go_ret
        exact ⟨ret_bool (by rw [hah.out, decide_eq_false (by omega : ¬ y < x), decide_eq_true (by omega : x = y), decide_eq_false (by omega : ¬ n1 < n2)]; rfl), by rw [hg0.out]; exact B3.out⟩
    · go_wp2
      go_ret
      exact ⟨ret_bool (by rw [hah.out, decide_eq_false (by omega : ¬ y < x), decide_eq_false (by omega : ¬ x = y)]; rfl), by rw [hg0.out]; exact B3.out⟩
end Go.Proofs.YtflapjehkgefdaaGreat

namespace Go.Proofs.YtflapjehkgefdaaGreat
open Go.RowKit
set_option linter.unusedVariables false
set_option linter.unusedSimpArgs false

set_option maxRecDepth 100000 in
set_option maxHeartbeats 4000000 in
theorem rqueue_any (ca pa aa qa : Option Addr) (cn cc pn pc ak az qk qc : Nat) (pol : Int) (Z : List Int) (M : List (Prt × List ByteArray)) (A : List Acc) (Q : List Qu) (a : Option Addr) (k c : Nat) (L : List Job) (w : World) (hC0 : CfD w ca pa aa qa cn pn pc ak az qk qc Z M A Q) (hn : L.length = k) (hl : k ≤ 100000) (hat0 : JAt w a L) :
    Calls Tryz.prog 12 #[.agg #[.slice ca cn cc, .slice pa pn pc, .slice aa ak az, .slice qa qk qc, .int .u8 pol], .slice a k c] w (QueT (prQ Z M A Q pol) L w) := by
  obtain ⟨i0, hi, hz0, hz1, hz2⟩ := info_parts info53
  obtain ⟨i3, hi3, hy0, hy1, hy2⟩ := info_parts info3
  obtain ⟨CF, hCF⟩ : ∃ CF, CF = #[Value.slice ca cn cc, .slice pa pn pc, .slice aa ak az, .slice qa qk qc, .int .u8 pol] := ⟨_, rfl⟩
  obtain ⟨W1, hW1⟩ : ∃ W1, W1 = w.alloc (.cells CF 28) := ⟨_, rfl⟩
  have b1 : Below w.heap.size w W1 := by rw [hW1]; exact below_lit _ _
  have hrowC : W1.heap[w.heap.size]? = some (.cells CF 28 (0, 0)) := by rw [hW1]; exact heap_alloc_new w _
  have hsz1 : W1.heap.size = w.heap.size + 1 := by rw [hW1, size_lit]
  have hcs : Hid (CF.size = 5) := hid (by rw [hCF]; rfl)
  have hat := hid (hat0.below b1)
  obtain ⟨pr, hpr⟩ : ∃ pr, pr = prQ Z M A Q pol := ⟨_, rfl⟩
  have kA := hid fun (W : World) (hb : Below W1.heap.size W1 W) (J1 J2 : Job) => rahead_any ca pa aa qa cn cc pn pc ak az qk qc pol Z M A Q J1 J2 W ((hC0.below b1).below hb)
  rw [← hpr, ← hCF] at kA
  rw [← hpr, ← hCF]
  clear hC0 hat0
  replace hpr := hid hpr
  replace hCF := hid hCF
  generalize hgS : w.heap.size = gS at *
  replace hgS := hid hgS
  replace hrowC := hid hrowC
  replace hsz1 := hid hsz1
  replace hn := hid hn
  replace b1 := hid b1
  replace hW1 := hid hW1
  go_enter Tryz.func12, Tryz.ntmps12
  go_upto_region 1 with fail
  rw [← hW1.out, hgS.out]
  go_wp2_with fail
  go_loopw [5, 6] (fun v i wr => ∃ j : Nat, j ≤ k ∧ i = .int .i64 (j : Int) ∧ Hid (∃ S : List Job, S.Perm ((L.take j).filter pend) ∧ SortedQ pr (·.id) S ∧ wr.ownsRow W1.heap.size 37 17 v S.length (S.flatMap jc)) ∧ Below W1.heap.size W1 wr) (fun _ i _ => k - (intOf i).toNat)
  case atStart => exact ⟨0, Nat.zero_le _, rfl, hid ⟨[], List.Perm.refl _, List.Pairwise.nil, World.ownsRow_nil _ _ _ _⟩, Below.refl _ _⟩
  case round =>
    obtain ⟨j, hj, rfl, hS, hb⟩ := hrel
    obtain ⟨S, hSp, hSs, hown⟩ := hS.out
    clear hS
    obtain ⟨va, vc, e, hvc⟩ := owns_form hown
    subst e
    have hlenS : Hid (S.length ≤ j) := hid (by rw [hSp.length_eq]; have := List.length_filter_le pend (L.take j); have := List.length_take (i := j) (l := L); omega)
    obtain ⟨n, hnS⟩ : ∃ n, S.length = n := ⟨_, rfl⟩
    rw [hnS] at hown hvc hlenS ⊢
    replace hnS := hid hnS
    have hnj := hlenS.out
    replace hSp := hid hSp
    replace hSs := hid hSs
    replace hown := hid hown
    by_cases hlt : j < k
    · have hjL : j < L.length := by rw [hn.out]; exact hlt
      obtain ⟨b, o, e⟩ := hat.out.place (by omega)
      subst e
      have hcj := hid ((hat.out.below hb).range hjL)
      have hnext := hid (filter_take hjL)
      generalize jobAt L j = J at *
      have hst : wr.cell? ⟨b, o + j * 17 + 11, none⟩ = some (.int .u8 J.st) := hcj.out 11 _ rfl
      by_cases hp : J.st = 1
      · have hpn : Hid ((L.take (j + 1)).filter pend = (L.take j).filter pend ++ [J]) := hid (by rw [hnext.out, if_pos (show pend J = true from decide_eq_true hp)])
        have dst : (J.st == 1) = true := by rw [hp]; rfl
        replace hp := hid hp
        have bl := below_lit wr (.cells (jc J).toArray 37)
        have B0 := bnext hb bl
        have hcat := hid (cat_lit wr 37 (jc J) (jc J).toArray rfl)
        have hone := hid (jc_one J)
        have hown2 := hid (owns_below hown.out bl)
        clear bl
        go_wp2_with (first
          | (refine wpList_load_mid rfl 37 (.tmp 25) rfl b (o + j * 17) rfl (jc J) _ hcj.out Tryz.underlying37 rfl (by kernel_rfl) ?_)
          | (refine wpList_one rfl 29 37 (.tmp 26) rfl (jc J).toArray 17 i0 _ Tryz.underlying29 hi hz0 hz1 (by omega) (by omega) rfl rfl ?_)
          | (at_builtin; refine Hid.out ?_))
        refine wpList_cat _ rfl (.tmp 22) (.tmp 27) 29 rfl W1.heap.size 37 i0 _ 17 184 Tryz.underlying29 hi hz0 hz1 hz2 rfl (by omega) _ _ _ rfl hown2.out (some ⟨wr.heap.size, 0, none⟩) 1 1 (jc J) rfl rfl hcat.out hone.out (by unfold maxLen; omega) (by omega) B0.size ?_
        intro v' w4 ho4 hg4 hv4
        have B4 : Below W1.heap.size W1 w4 := Below.grown B0 hg4 B0.size (fun j hj => (hown2.out.lt _ hj).1)
        obtain ⟨va', rc, e, hrc⟩ := owns_form ho4
        subst e
        obtain ⟨g, e, hgb, hgl⟩ := owns_at ho4 (by omega)
        subst e
        obtain ⟨m1, hm1⟩ : ∃ m1, m1 = n + 1 := ⟨_, rfl⟩
        rw [← hm1] at ho4 hrc ⊢
        have hown4 : Hid (w4.ownsRow W1.heap.size 37 17 (.slice (some ⟨g, 0, none⟩) m1 rc) m1 ((insAtQ S J n).flatMap jc)) := hid (by
          rw [← hnS.out, insAtQ_end, List.flatMap_append]
          have : [J].flatMap jc = jc J := by simp
          rw [this]
          exact ho4)
        have hw7 : IntKind.i64.wrap ((m1 : Int) - 1) = (n : Int) := by rw [IntKind.wrap_i64]; omega
        replace hm1 := hid hm1
        clear ho4 hg4 hv4 hcat hst hcj hown hown2
        go_wp2_with fail
        go_loopw [7] (fun i wc => ∃ p : Nat, p ≤ n ∧ i = .int .i64 (p : Int) ∧ Hid (wc.ownsRow W1.heap.size 37 17 (.slice (some ⟨g, 0, none⟩) m1 rc) m1 ((insAtQ S J p).flatMap jc)) ∧ Hid (∀ i y, p ≤ i → S[i]? = some y → aheadB pr (·.id) J y = true) ∧ Below W1.heap.size W1 wc) (fun i _ => (intOf i).toNat)
        case atStart => exact ⟨n, Nat.le_refl _, rfl, hown4, hid (fun i y hi hy => by rw [List.getElem?_eq_none (by rw [hnS.out]; exact hi)] at hy; cases hy), B4⟩
        case round =>
          rename World => wc
          clear hown4 B4
          obtain ⟨p, hpn2, rfl, hown5, hab, hbc⟩ := hrel
          by_cases hp0 : p = 0
          · have hp0' : decide ((0 : Int) < (p : Int)) = false := decide_eq_false (by omega)
            have hp0'' : decide (0 < p) = false := decide_eq_false (by omega)
            have hS' : Hid (∃ S' : List Job, S'.Perm ((L.take (j + 1)).filter pend) ∧ SortedQ pr (·.id) S' ∧ (.slice (some ⟨g, 0, none⟩) m1 rc : Value) = .slice (some ⟨g, 0, none⟩) m1 rc ∧ S'.length = m1 ∧ S'.flatMap jc = (insAtQ S J p).flatMap jc) := hid ⟨insAtQ S J p, by
              rw [hpn.out]
              exact (insAtQ_perm S J p).trans ((hSp.out.cons J).trans (List.perm_append_comm (l₁ := [J]))), insAtQ_sorted pr (·.id) hSs.out (by omega) hab.out (fun y h => by omega), rfl, by rw [insAtQ_len S J p (by omega), hnS.out, hm1.out], rfl⟩
            replace hp0 := hid hp0
            go_upto_region 8 with fail
            go_quiet (fail)
            go_wp2_with fail
            go_roundw
            case rel =>
              obtain ⟨S', h1, h2, _, h4, h5⟩ := hS'.out
              exact ⟨j + 1, by omega, by go_num, hid ⟨S', h1, h2, by rw [h4, h5]; exact (owns_below hown5.out (below_drewN (Below.refl _ _) _))⟩, below_drewN hbc _⟩
            case measure => simp [intOf]; omega
          · obtain ⟨q, hpq⟩ : ∃ q, p = q + 1 := ⟨p - 1, by omega⟩
            have hqS : q < S.length := by rw [hnS.out]; omega
            obtain ⟨Y, hY⟩ : ∃ Y, Y = jobAt S q := ⟨_, rfl⟩
            have hSq : S[q]? = some Y := by rw [hY]; exact jobAt_get hqS
            have hlenI : (insAtQ S J p).length = m1 := by rw [insAtQ_len S J p (by omega), hnS.out, hm1.out]
            obtain ⟨d, hd⟩ : ∃ d : Nat → Job, d = fun i => jobAt (insAtQ S J p) i := ⟨_, rfl⟩
            have hdp : d p = J := by rw [hd]; exact jobAt_of (by rw [insAtQ_get S J p p (by omega), if_neg (by omega), if_pos rfl])
            have hdq : d q = Y := by rw [hd]; exact jobAt_of (by rw [insAtQ_get S J p q (by omega), if_pos (by omega)]; exact hSq)
            have hpm : p < m1 := by have := hm1.out; omega
            have hqm : q < m1 := by omega
            have hrp : Hid (wc.rangeAt g (p * 17) (jc J)) := hid (by have := owns_range hown5.out hlenI hpm; have e9 := hdp; rw [hd] at e9; dsimp only at e9; rwa [e9] at this)
            have hrq : Hid (wc.rangeAt g (q * 17) (jc Y)) := hid (by have := owns_range hown5.out hlenI hqm; have e9 := hdq; rw [hd] at e9; dsimp only at e9; rwa [e9] at this)
            obtain ⟨bb, hbb⟩ : ∃ bb, bb = aheadB pr (·.id) J Y := ⟨_, rfl⟩
            have hrCc : Hid (wc.heap[gS]? = some (.cells CF 28 (0, 0))) := hid (by rw [hbc.block _ (by have := hsz1.out; omega)]; exact hrowC.out)
            have hgSc : gS < wc.heap.size := by have := hbc.size; have := hsz1.out; omega
            have hp1 : (0 : Int) < (p : Int) := by omega
            have hp2 : 0 < p := by omega
            have hpi : (p : Int) < (m1 : Int) := by omega
            have hqi : (q : Int) < (m1 : Int) := by omega
            have hw9 : IntKind.i64.wrap ((p : Int) - 1) = (q : Int) := by rw [IntKind.wrap_i64]; omega
            replace hp0 := hid hp0
            replace hpq := hid hpq
            replace hY := hid hY
            replace hSq := hid hSq
            replace hd := hid hd
            replace hdp := hid hdp
            replace hdq := hid hdq
            replace hbb := hid hbb
            replace hlenI := hid hlenI
            go_upto_region 8 with fail
            refine wp_region_drawn (Rel := fun w w' => Below w.heap.size w w') (Pr := PrV [.int .i64 (p : Int), .bool true, .bool true, .agg CF, .slice (some ⟨g, 0, none⟩) m1 rc, .int .i64 (p : Int), .pointer (some ⟨g, p * 17, none⟩), .agg (jc J).toArray, .slice (some ⟨g, 0, none⟩) m1 rc, .int .i64 (p : Int), .int .i64 (q : Int), .pointer (some ⟨g, q * 17, none⟩), .agg (jc Y).toArray, .bool bb, .bool bb] [] (fun _ _ _ => True)) (by kernel_rfl) (by kernel_rfl) (Below.drew (Below.refl _ _)) (fun _ _ _ h k => h.trans (k.mono h.size)) (PrV.mono fun _ _ _ _ h k => h) ?_ ?_
            · refine ⟨?_, ?_, ?_, ?_, ?_, ?_, ?_, ?_, ?_, ?_, ?_, ?_, ?_, ?_, ?_, trivial⟩
              · intro ac w1 hR hd2 hk2 Kx hK
                exact yes (want_n rfl) (wp_mv _ rfl _ (get_keep (hk2 7 (no_dst (by kernel_rfl))) rfl) (hK _ w1 (PrV.is rfl rfl) (Below.refl _ _)))
              · intro ac w1 hR hd2 hk2 Kx hK
                have e32 : ac.tmps[32]?.getD undef = (.int .i64 (p : Int) : Value) := slot ((hd2 0 _ 32 rfl rfl rfl).val rfl)
                refine yes (want_n rfl) ?_
                have hv := hid (hK (.bool true) w1 (PrV.is rfl rfl) (Below.refl _ _))
                go_simp
                exact kq hv.out rfl
              · intro ac w1 hR hd2 hk2 Kx hK
                exact yes (want_n rfl) (wp_mv _ rfl _ ((hd2 1 _ 33 rfl rfl rfl).val rfl) (hK _ w1 (PrV.is rfl rfl) (Below.refl _ _)))
              · intro ac w1 hR hd2 hk2 Kx hK
                exact yes (want_g rfl rfl ((hd2 2 _ 34 rfl rfl rfl).val rfl)) (wp_load_row 28 _ rfl gS (get_keep (hk2 2 (no_dst (by kernel_rfl))) rfl) 28 CF (0, 0) _ (by rw [hR.block _ hgSc]; exact hrCc.out) Tryz.underlying28 rfl (by rw [hcs.out]; kernel_rfl) (hK _ w1 (PrV.is rfl rfl) (Below.refl _ _)))
              · intro ac w1 hR hd2 hk2 Kx hK
                exact yes (want_g rfl rfl ((hd2 2 _ 34 rfl rfl rfl).val rfl)) (wp_mv _ rfl _ (get_keep (hk2 5 (no_dst (by kernel_rfl))) rfl) (hK _ w1 (PrV.is rfl rfl) (Below.refl _ _)))
              · intro ac w1 hR hd2 hk2 Kx hK
                exact yes (want_g rfl rfl ((hd2 2 _ 34 rfl rfl rfl).val rfl)) (wp_mv _ rfl _ (get_keep (hk2 7 (no_dst (by kernel_rfl))) rfl) (hK _ w1 (PrV.is rfl rfl) (Below.refl _ _)))
              · intro ac w1 hR hd2 hk2 Kx hK
                have e36 : ac.tmps[36]?.getD undef = (.slice (some ⟨g, 0, none⟩) m1 rc : Value) := slot ((hd2 4 _ 36 rfl rfl rfl).val rfl)
                have e37 : ac.tmps[37]?.getD undef = (.int .i64 (p : Int) : Value) := slot ((hd2 5 _ 37 rfl rfl rfl).val rfl)
                refine yes (want_g rfl rfl ((hd2 2 _ 34 rfl rfl rfl).val rfl)) ?_
                have hv := hid (hK (.pointer (some ⟨g, p * 17, none⟩)) w1 (PrV.is rfl rfl) (Below.refl _ _))
                go_simp
                exact kq hv.out rfl
              · intro ac w1 hR hd2 hk2 Kx hK
                exact yes (want_g rfl rfl ((hd2 2 _ 34 rfl rfl rfl).val rfl)) (wp_load_mid 37 _ rfl g (p * 17) ((hd2 6 _ 38 rfl rfl rfl).val rfl) (jc J) _ (fun j v hv => stay hR (hrp.out j v hv)) Tryz.underlying37 rfl (by kernel_rfl) (hK _ w1 (PrV.is rfl rfl) (Below.refl _ _)))
              · intro ac w1 hR hd2 hk2 Kx hK
                exact yes (want_g rfl rfl ((hd2 2 _ 34 rfl rfl rfl).val rfl)) (wp_mv _ rfl _ (get_keep (hk2 5 (no_dst (by kernel_rfl))) rfl) (hK _ w1 (PrV.is rfl rfl) (Below.refl _ _)))
              · intro ac w1 hR hd2 hk2 Kx hK
                exact yes (want_g rfl rfl ((hd2 2 _ 34 rfl rfl rfl).val rfl)) (wp_mv _ rfl _ (get_keep (hk2 7 (no_dst (by kernel_rfl))) rfl) (hK _ w1 (PrV.is rfl rfl) (Below.refl _ _)))
              · intro ac w1 hR hd2 hk2 Kx hK
                have e41 : ac.tmps[41]?.getD undef = (.int .i64 (p : Int) : Value) := slot ((hd2 9 _ 41 rfl rfl rfl).val rfl)
                refine yes (want_g rfl rfl ((hd2 2 _ 34 rfl rfl rfl).val rfl)) ?_
                have hv := hid (hK (.int .i64 (q : Int)) w1 (PrV.is rfl rfl) (Below.refl _ _))
                go_simp
                exact kq hv.out rfl
              · intro ac w1 hR hd2 hk2 Kx hK
                have e40 : ac.tmps[40]?.getD undef = (.slice (some ⟨g, 0, none⟩) m1 rc : Value) := slot ((hd2 8 _ 40 rfl rfl rfl).val rfl)
                have e42 : ac.tmps[42]?.getD undef = (.int .i64 (q : Int) : Value) := slot ((hd2 10 _ 42 rfl rfl rfl).val rfl)
                refine yes (want_g rfl rfl ((hd2 2 _ 34 rfl rfl rfl).val rfl)) ?_
                have hv := hid (hK (.pointer (some ⟨g, q * 17, none⟩)) w1 (PrV.is rfl rfl) (Below.refl _ _))
                go_simp
                exact kq hv.out rfl
              · intro ac w1 hR hd2 hk2 Kx hK
                exact yes (want_g rfl rfl ((hd2 2 _ 34 rfl rfl rfl).val rfl)) (wp_load_mid 37 _ rfl g (q * 17) ((hd2 11 _ 43 rfl rfl rfl).val rfl) (jc Y) _ (fun j v hv => stay hR (hrq.out j v hv)) Tryz.underlying37 rfl (by kernel_rfl) (hK _ w1 (PrV.is rfl rfl) (Below.refl _ _)))
              · intro ac w1 hR hd2 hk2 Kx hK
                exact yes (want_g rfl rfl ((hd2 2 _ 34 rfl rfl rfl).val rfl)) (wp_callv 14 _ _ rfl _ Tryz.func14 rfl rfl _ (args3 ((hd2 3 _ 35 rfl rfl rfl).val rfl) ((hd2 7 _ 39 rfl rfl rfl).val rfl) ((hd2 12 _ 44 rfl rfl rfl).val rfl)) (kA.out w1 (hbc.trans (hR.mono hbc.size)) J Y) (by rintro e w2 ⟨rfl, hb9⟩; exact ⟨_, rfl, hK _ _ (PrV.is rfl (by rw [← hbb.out]; rfl)) hb9⟩))
              · intro ac w1 hR hd2 hk2 Kx hK
                exact yes (want_n rfl) (wp_pick _ _ _ rfl true _ ((hd2 2 _ 34 rfl rfl rfl).val rfl) ((hd2 13 _ 45 rfl rfl rfl).val rfl) (hK _ w1 (PrV.is rfl rfl) (Below.refl _ _)))
            · intro ac w1 hdf hsz2 hkp hval hRw
              obtain ⟨ff, hf⟩ : ∃ ff, ff = fun d => ac.tmps.getD d undef := ⟨_, rfl⟩
              have h46 : ff 46 = .bool bb := by rw [hf]; exact (hval 14 _ 46 rfl rfl).val rfl
              have hfa := act_filled hdf hsz2 hkp
              rw [← hf] at hfa
              rw [hfa]
              clear hdf hsz2 hkp hval hfa hf
              clear ac
              simp only [fillAll, List.set_cons_zero, List.set_cons_succ, h46]
              have Bw := hid (hbc.trans (hRw.mono hbc.size))
              have hown6 := hid (owns_below hown5.out hRw)
              clear hRw hown5 hrp hrq hrCc hgSc h46
              cases bb with
              | false =>
                have hS' : Hid (∃ S' : List Job, S'.Perm ((L.take (j + 1)).filter pend) ∧ SortedQ pr (·.id) S' ∧ S'.length = m1 ∧ S'.flatMap jc = (insAtQ S J p).flatMap jc) := hid ⟨insAtQ S J p, by
                  rw [hpn.out]
                  exact (insAtQ_perm S J p).trans ((hSp.out.cons J).trans (List.perm_append_comm (l₁ := [J]))), insAtQ_sorted pr (·.id) hSs.out (by rw [hnS.out]; exact hpn2) hab.out (fun y _ h => by
                    rw [hpq.out, Nat.add_sub_cancel, hSq.out] at h
                    injection h with h
                    rw [← h]
                    exact hbb.out.symm), hlenI.out, rfl⟩
                go_wp2_with fail
                go_roundw
                case rel =>
                  obtain ⟨S', h1, h2, h4, h5⟩ := hS'.out
                  exact ⟨j + 1, by omega, by go_num, hid ⟨S', h1, h2, by rw [h4, h5]; exact hown6.out⟩, Bw.out⟩
                case measure => simp [intOf]; omega
              | true =>
                have hownD : Hid (w1.drew.ownsRow W1.heap.size 37 17 (.slice (some ⟨g, 0, none⟩) m1 rc) m1 ((insAtQ S J p).flatMap jc)) := hid hown6.out.drew
                have hrg := hid (fun i (hi : i < m1) => by have := owns_range hownD.out hlenI.out hi; rw [show jobAt (insAtQ S J p) i = d i by rw [hd.out]] at this; exact this)
                have hown7 := owns_job hownD.out hlenI.out hpm (d q)
                have ht1 := hid (owns_there hownD.out hpm)
                have ht2 := hid (owns_there hown7 hqm)
                have hown8 := owns_job hown7 (by rw [List.length_set]; exact hlenI.out) hqm (d p)
                have hsw : ((insAtQ S J p).set p (d q)).set q (d p) = insAtQ S J q := by
                  have hpq1 := hpq.out
                  rw [hdp.out, hdq.out]
                  subst hpq1
                  exact insAtQ_swap (by rw [hnS.out]; exact hpn2) hSq.out
                rw [hsw] at hown8
                have hnew : Hid (((w1.drew.setCells g (p * 17) (jc (d q))).setCells g (q * 17) (jc (d p))).ownsRow W1.heap.size 37 17 (.slice (some ⟨g, 0, none⟩) m1 rc) m1 ((insAtQ S J q).flatMap jc) ∧ Below W1.heap.size W1 ((w1.drew.setCells g (p * 17) (jc (d q))).setCells g (q * 17) (jc (d p)))) := hid ⟨hown8, below_setCells hgb _ _ (below_setCells hgb _ _ Bw.out.drew)⟩
                have hab2 : Hid (∀ i y, q ≤ i → S[i]? = some y → aheadB pr (·.id) J y = true) := hid fun i y hi hy => by
                  by_cases h1 : i = q
                  · rw [h1, hSq.out] at hy
                    injection hy with hy
                    rw [← hy]
                    exact hbb.out.symm
                  · exact hab.out i y (by have := hpq.out; omega) hy
                clear hown7 hown8 hsw
                go_upto_region 10 with fail
                refine Code.wp_mono nrm_of ?_
                refine rq_r10 (d := d) hpq hpm (by have := hm1.out; omega) hrg ht1 ht2 (hid ?_)
                intro d49 d50 d51 d52 d53 d54 d55 d56 d57 d58 d59 d60 d61 d62 d63 d64
                generalize (w1.drew.setCells g (p * 17) (jc (d q))).setCells g (q * 17) (jc (d p)) = W7 at hnew ⊢
                clear hrg ht1 ht2 hownD hown6
                dsimp only
                go_wp2_with fail
                go_roundw
                case rel => exact ⟨q, by have := hpq.out; omega, by go_num, hid hnew.out.1, hab2, hnew.out.2⟩
                case measure => have := hpq.out; simp [intOf]; omega
      · have hpn : Hid ((L.take (j + 1)).filter pend = (L.take j).filter pend) := hid (by rw [hnext.out, if_neg (by unfold pend; simpa using hp), List.append_nil])
        have dst : (J.st == 1) = false := beq_eq_false_iff_ne.2 hp
        replace hp := hid hp
        go_wp2_with fail
        go_roundw
        case rel => exact ⟨j + 1, by omega, by go_num, hid ⟨S, by rw [hpn.out]; exact hSp.out, hSs.out, by rw [hnS.out]; exact hown.out⟩, hb⟩
        case measure => simp [intOf]; omega
    · have hje : j = k := by omega
      subst hje
      have hq : Hid (IsQ pr (·.id) pend L (S.map (·.id))) := hid ⟨S, by have := hSp.out; rwa [show L.take j = L by rw [← hn.out, List.take_length]] at this, hSs.out, rfl⟩
      have hSat : Hid (JAt wr va S) := hid (owns_cat hown.out)
      clear hown
      go_wp2_with fail
      go_loopw [8, 9] (fun v i wx => ∃ t : Nat, t ≤ n ∧ i = .int .i64 (t : Int) ∧ Hid (IOwn wx wr.heap.size v ((S.take t).map (·.id))) ∧ Below wr.heap.size wr wx) (fun _ i _ => n - (intOf i).toNat)
      case atStart => exact ⟨0, Nat.zero_le _, rfl, hid (IOwn.nil _ _), Below.refl _ _⟩
      case round =>
        rename World => wr2
        obtain ⟨t, ht, rfl, hown2, hbt⟩ := hrel
        have hlenI : Hid (((S.take t).map (·.id)).length = t) := hid (by rw [List.length_map, List.length_take]; have := hnS.out; omega)
        obtain ⟨xa, xc, e, hxc⟩ := owns_form hown2.out
        subst e
        rw [hlenI.out] at hown2 hxc ⊢
        by_cases hlt2 : t < n
        · have htS : t < S.length := by rw [hnS.out]; exact hlt2
          obtain ⟨b, o, e⟩ := hSat.out.place (by omega)
          subst e
          have x0 : wr2.cell? ⟨b, o + t * 17, none⟩ = some (.int .i64 (jobAt S t).id) := ((hSat.out.below hbt).range htS) 0 _ rfl
          have hnext2 : Hid ((S.take (t + 1)).map (·.id) = (S.take t).map (·.id) ++ [(jobAt S t).id]) := hid (by rw [take_more htS, List.map_append, jobAt_eq htS]; rfl)
          generalize (S.take t).map (·.id) = I at *
          generalize (jobAt S t).id = X1 at *
          have bl2 := below_lit wr2 (.cells #[.int .i64 X1] 3)
          have B6 := bnext hbt bl2
          have hcat := hid (cat_lit wr2 3 [.int .i64 X1] #[.int .i64 X1] rfl)
          have hone := hid (one_I X1)
          have hown5' : (wr2.alloc (.cells #[.int .i64 X1] 3)).ownsRow wr.heap.size 3 1 (.slice xa t xc) t (I.flatMap ic) := by
            have := hown2.out.below bl2
            unfold IOwn at this
            rw [hlenI.out] at this
            exact this
          replace hown5' := hid hown5'
          clear bl2
          go_wp2_with (at_builtin; refine Hid.out ?_)
          refine wpList_cat _ rfl (.tmp 71) (.tmp 77) 22 rfl wr.heap.size 3 i3 _ 1 8 Tryz.underlying22 hi3 hy0 hy1 hy2 rfl (by omega) _ _ _ rfl hown5'.out (some ⟨wr2.heap.size, 0, none⟩) 1 1 [.int .i64 X1] rfl rfl hcat.out hone.out (by unfold maxLen; omega) (by omega) B6.size ?_
          intro v' w4 ho4 hg4 hv4
          have hown6 : IOwn w4 wr.heap.size v' (I ++ [X1]) := by
            unfold IOwn
            rw [List.length_append, hlenI.out]
            simp only [List.flatMap_append]
            exact ho4
          have B7 : Below wr.heap.size wr w4 := Below.grown B6 hg4 B6.size (fun j hj => (hown5'.out.lt _ hj).1)
          replace hown6 := hid hown6
          clear ho4 hg4 hv4 hcat
          go_wp2_with fail
          go_roundw
          case rel => exact ⟨t + 1, by omega, by go_num, hid (by rw [hnext2.out]; exact hown6.out), B7⟩
          case measure => simp [intOf]; omega
        · have hte : t = n := by omega
          subst hte
          have hf2 : Hid (S.take t = S) := hid (by rw [← hnS.out, List.take_length])
          rw [hf2.out] at hown2
          go_wp2
          go_ret
          refine ⟨xa, xc, S.map (·.id), by rw [List.length_map, hnS.out]; rfl, hq.out, hown2.out.iat, by rw [List.length_map, hnS.out]; exact hxc, ?_⟩
          rw [hgS.out]
          exact b1.out.trans ((hb.trans (hbt.mono hb.size)).mono (by have := hsz1.out; omega))
end Go.Proofs.YtflapjehkgefdaaGreat
