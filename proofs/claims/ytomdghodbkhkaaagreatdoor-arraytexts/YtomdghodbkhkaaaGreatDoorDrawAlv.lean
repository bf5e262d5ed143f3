/- A region that draws its order, whatever its operations do to the world: as DrawAll, but what holds of the world may also speak of what each operation left in its slot. -/
import Derived.Test.YtomdghodbkhkaaaGreatDoorDraw
namespace Go.Proofs.YtomdghodbkhkaaaGreatDoor
open Go.RowKit

section
variable {P : Program} {ops : Array Oper} {Q : Exit → Act → World → Prop} {Wd : (Nat → Bool) → (Nat → Value) → World → Prop} {Pv : Nat → Value → Prop}

def upAt (l : Array Bool) : Nat → Bool := fun i => l.getD i false

/-- What stands in the slot of an operation. -/
def valAt (ops : Array Oper) (a : Act) (i : Nat) : Value := match (ops[i]?).bind (·.dst) with | some d => a.tmps.getD d undef | none => undef
theorem valAt_of {a : Act} {i : Nat} {o : Oper} {d : Tmp} (h : ops[i]? = some o) (hd : o.dst = some d) : valAt ops a i = a.tmps.getD d undef := by simp [valAt, h, hd]
theorem valAt_no {a : Act} {i : Nat} (h : (ops[i]?).bind (·.dst) = none) : valAt ops a i = undef := by simp [valAt, h]

/-- What an operation hangs on has come up before it. -/
def Clos (ops : Array Oper) (L : Nat → Bool) : Prop := ∀ (i : Nat) (o : Oper), ops[i]? = some o → L i = true → ∀ e ∈ o.after.toList, Region.binds .any e = true → L e.on = true

theorem up_of {o : Oper} {L : Nat → Bool} (hup : ∀ e ∈ o.after.toList, Region.binds .any e = true → L e.on = true) {j : Nat} (h : (o.after.toList.any fun e => e.on == j && Region.binds .any e) = true) : L j = true := by
  obtain ⟨x, hx, hke⟩ := List.any_eq_true.1 h
  simp only [Bool.and_eq_true, beq_iff_eq] at hke
  rw [← hke.1]
  exact hup x hx hke.2

/-- Operation i hangs on j, through at most so many. -/
def needs (ops : Array Oper) : Nat → Nat → Nat → Bool
  | 0, i, j => i == j
  | n + 1, i, j => i == j || (match ops[i]? with | some o => o.after.toList.any fun e => Region.binds .any e && needs ops n e.on j | none => false)

theorem needs_up {L : Nat → Bool} (h : Clos ops L) : ∀ (n i j : Nat), needs ops n i j = true → L i = true → L j = true
  | 0, i, j, hn, hi => by simp only [needs, beq_iff_eq] at hn; rw [← hn]; exact hi
  | n + 1, i, j, hn, hi => by
    simp only [needs, Bool.or_eq_true, beq_iff_eq] at hn
    rcases hn with hn | hn
    · rw [← hn]; exact hi
    · cases ho : ops[i]? with
      | none => rw [ho] at hn; cases hn
      | some o =>
        rw [ho] at hn
        obtain ⟨e, he, h2⟩ := List.any_eq_true.1 hn
        simp only [Bool.and_eq_true] at h2
        exact needs_up h n e.on j h2.2 (h i o ho hi e he h2.1)

/-- What hangs on one that has not come up has not either. -/
theorem not_yet {L : Nat → Bool} (h : Clos ops L) (n : Nat) {i j : Nat} (hn : needs ops n i j = true) (hj : L j = false) : L i = false := by
  cases hi : L i with
  | false => rfl
  | true => rw [needs_up h n i j hn hi] at hj; cases hj

/-- What stands between two operations. -/
structure DrawnV (ops : Array Oper) (Wd : (Nat → Bool) → (Nat → Value) → World → Prop) (Pv : Nat → Value → Prop) (a0 : Act) (listed : Array Bool) (a : Act) (w : World) : Prop where
  defers : a.defers = a0.defers
  size : a.tmps.size = a0.tmps.size
  keep : ∀ s, (∀ (i : Nat) (o : Oper), ops[i]? = some o → o.dst ≠ some s) → a.tmps[s]? = a0.tmps[s]?
  val : ∀ (i : Nat) (o : Oper) (d : Tmp), ops[i]? = some o → listed.getD i false = true → o.dst = some d → Pv i (a.tmps.getD d undef)
  wd : Wd (upAt listed) (valAt ops a) w
  cl : Clos ops (upAt listed)

/-- One operation: L tells which have come up. -/
def AlvStep (P : Program) (ops : Array Oper) (Q : Exit → Act → World → Prop) (Wd : (Nat → Bool) → (Nat → Value) → World → Prop) (Pv : Nat → Value → Prop) (a0 : Act) (i : Nat) (o : Oper) : Prop :=
  ∀ (a : Act) (w : World) (L : Nat → Bool), L i = false → (∀ e ∈ o.after.toList, Region.binds .any e = true → L e.on = true) → Clos ops L → Wd L (valAt ops a) w →
    (∀ (j : Nat) (oj : Oper) (d : Tmp), (o.after.toList.any fun e => e.on == j && Region.binds .any e) = true → ops[j]? = some oj → oj.dst = some d → Pv j (a.tmps.getD d undef)) →
    (∀ s, (∀ (i : Nat) (o : Oper), ops[i]? = some o → o.dst ≠ some s) → a.tmps[s]? = a0.tmps[s]?) →
    ∀ K : Act → World → Prop, (∀ v w', (o.dst ≠ none → Pv i v) → (∀ L' V', L' i = true → (∀ j, j ≠ i → L' j = L j) → (o.dst ≠ none → V' i = v) → (∀ j, j ≠ i → V' j = valAt ops a j) → Wd L' V' w') → K (a.put o.dst v) w') → if Region.wanted o (yielded ops a.tmps) = true then Oper.wp P o a w K Q else K (a.put o.dst undef) w

def AlvSteps (P : Program) (ops : Array Oper) (Q : Exit → Act → World → Prop) (Wd : (Nat → Bool) → (Nat → Value) → World → Prop) (Pv : Nat → Value → Prop) (a0 : Act) : Nat → List Oper → Prop
  | _, [] => True
  | i, o :: r => AlvStep P ops Q Wd Pv a0 i o ∧ AlvSteps P ops Q Wd Pv a0 (i + 1) r

theorem AlvSteps.get {a0 : Act} : ∀ (l : List Oper) (k : Nat), AlvSteps P ops Q Wd Pv a0 k l → ∀ (i : Nat) (o : Oper), l[i]? = some o → AlvStep P ops Q Wd Pv a0 (k + i) o
  | [], _, _, i, o, h => by simp at h
  | x :: r, k, hs, i, o, h => by
    cases i with
    | zero => simp at h; subst h; exact hs.1
    | succ i =>
      have := AlvSteps.get r (k + 1) hs.2 i o (by simpa using h)
      rw [show k + (i + 1) = k + 1 + i by omega]; exact this

/-- Each slot is written by one operation, within the frame; each hangs on earlier ones. -/
def alvB (ops : Array Oper) (n : Nat) : Bool :=
  decide ((ops.toList.filterMap (·.dst)).Nodup) && ops.all (fun o => match o.dst with | some d => decide (d < n) | none => true) &&
  (List.range ops.size).all fun i => match ops[i]? with | some o => o.after.all fun e => !Region.binds .any e || decide (e.on < i) | none => true

theorem wp_region_alv {id : Nat} {a0 : Act} {w0 : World} (hm : P.follows .mixedOrders = true) (hB : alvB ops a0.tmps.size = true)
    (h0 : ∀ L V, (∀ j, L j = false) → Wd L V w0.drew) (hs : AlvSteps P ops Q Wd Pv a0 0 ops.toList)
    (hfin : ∀ (a : Act) (w : World), a.defers = a0.defers → a.tmps.size = a0.tmps.size → (∀ s, (∀ (i : Nat) (o : Oper), ops[i]? = some o → o.dst ≠ some s) → a.tmps[s]? = a0.tmps[s]?) → (∀ (i : Nat) (o : Oper) (d : Tmp), ops[i]? = some o → o.dst = some d → Pv i (a.tmps.getD d undef)) → (∃ L, (∀ j, j < ops.size → L j = true) ∧ Wd L (valAt ops a) w) → Q .normal a w) :
    (Code.region id ops true).wp P Q a0 w0 := by
  unfold alvB at hB
  simp only [Bool.and_eq_true, decide_eq_true_eq] at hB
  obtain ⟨⟨hnd, hin⟩, hlow⟩ := hB
  have hstep : ∀ (i : Nat) (o : Oper), ops[i]? = some o → AlvStep P ops Q Wd Pv a0 i o := fun i o hi => by
    have := AlvSteps.get ops.toList 0 hs i o (by simpa using hi)
    rwa [Nat.zero_add] at this
  have hdin : ∀ (i : Nat) (o : Oper) (d : Tmp), ops[i]? = some o → o.dst = some d → d < a0.tmps.size := fun i o d hi hd => by
    obtain ⟨hlt, rfl⟩ := Array.getElem?_eq_some_iff.1 hi
    have h1 := Array.all_eq_true.1 hin i hlt
    rw [hd] at h1
    simpa using h1
  have hback : ∀ (i : Nat) (o : Oper) (e : Edge), ops[i]? = some o → e ∈ o.after → Region.binds .any e = true → e.on < i := fun i o e hi he hb => by
    have hlt : i < ops.size := (Array.getElem?_eq_some_iff.1 hi).1
    have h1 := List.all_eq_true.1 hlow i (List.mem_range.2 hlt)
    rw [hi] at h1
    obtain ⟨k, hk, rfl⟩ := Array.mem_iff_getElem.1 he
    have h2 := Array.all_eq_true.1 h1 k hk
    rw [hb] at h2
    simpa using h2
  refine wp_region_any hm ?_
  have key : ∀ (fuel : Nat) (listed : Array Bool) (a : Act) (w : World), listed.size = ops.size → listed.toList.count true + fuel = ops.size → DrawnV ops Wd Pv a0 listed a w → wpAny P .any ops Q fuel listed a w := by
    intro fuel
    induction fuel with
    | zero =>
      intro listed a w hsz hc hD
      have hall := all_true listed.toList (by simp at hsz hc ⊢; omega)
      have hl : ∀ i, i < ops.size → listed.getD i true = true ∧ listed.getD i false = true := fun i hi => by
        have := hall i (by simpa [hsz] using hi)
        simp only [Array.getElem?_toList] at this
        simp [Array.getD_eq_getD_getElem?, this]
      refine ⟨?_, hfin a w hD.defers hD.size hD.keep (fun i o d hi hd => hD.val i o d hi (hl i (Array.getElem?_eq_some_iff.1 hi).1).2 hd) ⟨upAt listed, fun j hj => (hl j hj).2, hD.wd⟩⟩
      unfold Region.ready
      refine List.filter_eq_nil_iff.2 (fun i hi => ?_)
      rw [(hl i (List.mem_range.1 hi)).1]
      simp
    | succ fuel ih =>
      intro listed a w hsz hc hD
      refine ⟨fun hnil => ?_, fun i hi => ?_⟩
      · have hall : ∀ n i, i < n → i < ops.size → listed.getD i false = true := by
          intro n
          induction n with
          | zero => intro i hi; omega
          | succ n ihn =>
            intro i hi hlt
            rcases Nat.lt_or_ge i n with h1 | h1
            · exact ihn i h1 hlt
            · have hno := List.filter_eq_nil_iff.1 (show (List.range ops.size).filter _ = [] from hnil) i (List.mem_range.2 hlt)
              obtain ⟨o, ho⟩ : ∃ o, ops[i]? = some o := ⟨_, Array.getElem?_eq_getElem hlt⟩
              have hrdy : ((ops[i]?).map (·.after.all fun e => !Region.binds .any e || listed.getD e.on false)).getD false = true := by
                rw [ho]
                simp only [Option.map_some, Option.getD_some]
                refine Array.all_eq_true.2 (fun k hk => ?_)
                cases hb : Region.binds .any o.after[k] with
                | false => simp
                | true =>
                  have hlt2 := hback i o _ ho (Array.getElem_mem hk) hb
                  have hq : listed.getD o.after[k].on false = true := ihn o.after[k].on (by omega) (by omega)
                  rw [hq]; simp
              rw [hrdy] at hno
              have hin' : i < listed.size := by omega
              simp [Array.getD_eq_getD_getElem?, hin'] at hno ⊢
              exact hno
        exact hfin a w hD.defers hD.size hD.keep (fun i o d hi hd => hD.val i o d hi (hall (i + 1) i (by omega) (Array.getElem?_eq_some_iff.1 hi).1) hd) ⟨upAt listed, fun j hj => hall (j + 1) j (by omega) hj, hD.wd⟩
      · unfold Region.ready at hi
        obtain ⟨hir, hcond⟩ := List.mem_filter.1 hi
        have hlt := List.mem_range.1 hir
        obtain ⟨o, ho⟩ : ∃ o, ops[i]? = some o := ⟨_, Array.getElem?_eq_getElem hlt⟩
        rw [ho] at hcond
        simp only [Option.map_some, Option.getD_some, Bool.and_eq_true, Bool.not_eq_true'] at hcond
        obtain ⟨hnot, hrdy⟩ := hcond
        have hin' : i < listed.size := by omega
        have hnot' : listed[i]? = some false := by
          simp [Array.getD_eq_getD_getElem?, hin'] at hnot ⊢
          exact hnot
        have hup : ∀ e ∈ o.after.toList, Region.binds .any e = true → upAt listed e.on = true := fun e he hb => by
          obtain ⟨k, hk, rfl⟩ := Array.mem_iff_getElem.1 (Array.mem_toList_iff.1 he)
          have h2 := Array.all_eq_true.1 hrdy k hk
          rw [hb] at h2
          simpa [upAt] using h2
        refine wpOp_step ho (fun K' hK' => ?_)
        refine hstep i o ho a w (upAt listed) (by simp [upAt, Array.getD_eq_getD_getElem?, hnot']) hup hD.cl hD.wd ?_ hD.keep K' (fun v w' hv hr => hK' _ _ ?_)
        · intro j oj d hj hoj hd
          refine hD.val j oj d hoj ?_ hd
          obtain ⟨x, hx, hke⟩ := List.any_eq_true.1 hj
          simp only [Bool.and_eq_true, beq_iff_eq] at hke
          rw [← hke.1]
          exact hup x hx hke.2
        · have hgs : ∀ j, j ≠ i → (listed.setIfInBounds i true).getD j false = listed.getD j false := fun j hj => by
            simp only [Array.getD_eq_getD_getElem?, Array.getElem?_setIfInBounds_ne (Ne.symm hj)]
          have hgi : (listed.setIfInBounds i true).getD i false = true := by simp [Array.getD_eq_getD_getElem?, hin']
          refine ih _ _ _ (by simpa using hsz) ?_ ?_
          · have := count_set listed.toList i (by simpa using hnot')
            rw [Array.toList_setIfInBounds, this]
            omega
          · have hne' : ∀ j, j ≠ i → valAt ops (a.put o.dst v) j = valAt ops a j := fun j hj => by
              cases hoj : (ops[j]?).bind (·.dst) with
              | none => rw [valAt_no hoj, valAt_no hoj]
              | some d =>
                obtain ⟨oj, hj1, hj2⟩ := Option.bind_eq_some_iff.1 hoj
                rw [valAt_of hj1 hj2, valAt_of hj1 hj2]
                cases hdi : o.dst with
                | none => rfl
                | some di =>
                  have hne : di ≠ d := fun e => hj (nodup_dst ops.toList i j o oj d hnd (by simpa using ho) (by simpa using hj1) (by rw [hdi, e]) hj2).symm
                  simp only [Act.put, Array.getD_eq_getD_getElem?, Array.getElem?_setIfInBounds_ne hne]
            have hi' : o.dst ≠ none → valAt ops (a.put o.dst v) i = v := fun hn => by
              cases hdi : o.dst with
              | none => exact absurd hdi hn
              | some di =>
                have hs2 : di < a.tmps.size := by rw [hD.size]; exact hdin i o di ho hdi
                rw [valAt_of ho hdi]
                simp [Act.put, Array.getD_eq_getD_getElem?, hs2]
            have hwd := hr (upAt (listed.setIfInBounds i true)) (valAt ops (a.put o.dst v)) hgi hgs hi' hne'
            have hcl : Clos ops (upAt (listed.setIfInBounds i true)) := fun j oj hj hlj e he hb => by
              by_cases hei : e.on = i
              · rw [hei]; exact hgi
              · by_cases hji : j = i
                · subst hji
                  rw [ho] at hj
                  cases hj
                  exact (hgs _ hei).trans (hup e he hb)
                · exact (hgs _ hei).trans (hD.cl j oj hj ((hgs j hji).symm.trans hlj) e he hb)
            revert hwd
            cases hdi : o.dst with
            | none =>
              intro hwd
              refine ⟨hD.defers, hD.size, hD.keep, fun j oj d hj hlj hd => ?_, hwd, hcl⟩
              by_cases hij : j = i
              · subst hij
                rw [ho] at hj
                cases hj
                rw [hdi] at hd
                cases hd
              · rw [hgs j hij] at hlj
                exact hD.val j oj d hj hlj hd
            | some di =>
              intro hwd
              have hdlt := hdin i o di ho hdi
              refine ⟨hD.defers, by simpa [Act.put] using hD.size, fun s hns => ?_, fun j oj d hj hlj hd => ?_, hwd, hcl⟩
              · have hne : di ≠ s := fun e => hns i o ho (by rw [hdi, e])
                simp only [Act.put, Array.getElem?_setIfInBounds_ne hne]
                exact hD.keep s hns
              · by_cases hij : i = j
                · subst hij
                  rw [ho] at hj
                  cases hj
                  rw [hdi] at hd
                  cases hd
                  have hs2 : di < a.tmps.size := by rw [hD.size]; exact hdlt
                  simp [Act.put, Array.getD_eq_getD_getElem?, hs2]
                  exact hv (by rw [hdi]; simp)
                · have hne : di ≠ d := fun e => hij (nodup_dst ops.toList i j o oj d hnd (by simpa using ho) (by simpa using hj) (by rw [hdi, e]) hd)
                  rw [hgs j (Ne.symm hij)] at hlj
                  have := hD.val j oj d hj hlj hd
                  simp only [Act.put, Array.getD_eq_getD_getElem?, Array.getElem?_setIfInBounds_ne hne] at this ⊢
                  exact this
  refine key _ _ _ _ (by simp) (by simp [List.count_replicate]) ⟨rfl, rfl, fun _ _ => rfl, fun i o d hi hl _ => ?_, ?_, fun i o hi hl => ?_⟩
  · simp [Array.getD_eq_getD_getElem?, (Array.getElem?_eq_some_iff.1 hi).1] at hl
  · refine h0 _ _ (fun j => ?_)
    simp only [upAt, Array.getD_eq_getD_getElem?, Array.getElem?_replicate]
    split <;> rfl
  · simp [upAt, Array.getD_eq_getD_getElem?, (Array.getElem?_eq_some_iff.1 hi).1] at hl
end
end Go.Proofs.YtomdghodbkhkaaaGreatDoor
