/- A region that draws its order and makes memory: what each operation leaves in its slot is told by a predicate that lasts while the world goes on, so that one step an operation serves every order. -/
import Derived.Test.YtflapjehkgefdaaGreatBase
import Derived.RegionTactic
namespace Go.Proofs.YtflapjehkgefdaaGreat
open Go.RowKit

section
variable {P : Program} {ops : Array Oper} {Q : Exit → Act → World → Prop} {Rel : World → World → Prop} {Pr : Nat → Value → World → Prop}

/-- What stands between two operations of the region. -/
structure Drawn (ops : Array Oper) (Rel : World → World → Prop) (Pr : Nat → Value → World → Prop) (a0 : Act) (w0 : World) (listed : Array Bool) (a : Act) (w : World) : Prop where
  defers : a.defers = a0.defers
  size : a.tmps.size = a0.tmps.size
  keep : ∀ s, (∀ (i : Nat) (o : Oper), ops[i]? = some o → o.dst ≠ some s) → a.tmps[s]? = a0.tmps[s]?
  val : ∀ (i : Nat) (o : Oper) (d : Tmp), ops[i]? = some o → listed.getD i false = true → o.dst = some d → Pr i (a.tmps.getD d undef) w
  rel : Rel w0 w

/-- One operation, carried out wherever those that it hangs on have come up. -/
def DrawStep (P : Program) (ops : Array Oper) (Q : Exit → Act → World → Prop) (Rel : World → World → Prop) (Pr : Nat → Value → World → Prop) (a0 : Act) (w0 : World) (i : Nat) (o : Oper) : Prop :=
  ∀ (a : Act) (w : World), Rel w0 w →
    (∀ (j : Nat) (oj : Oper) (d : Tmp), (o.after.toList.any fun e => e.on == j && Region.binds .any e) = true → ops[j]? = some oj → oj.dst = some d → Pr j (a.tmps.getD d undef) w) →
    (∀ s, (∀ (i : Nat) (o : Oper), ops[i]? = some o → o.dst ≠ some s) → a.tmps[s]? = a0.tmps[s]?) →
    ∀ K : Act → World → Prop, (∀ v w', Pr i v w' → Rel w w' → K (a.put o.dst v) w') → if Region.wanted o (yielded ops a.tmps) = true then Oper.wp P o a w K Q else K (a.put o.dst undef) w

def DrawSteps (P : Program) (ops : Array Oper) (Q : Exit → Act → World → Prop) (Rel : World → World → Prop) (Pr : Nat → Value → World → Prop) (a0 : Act) (w0 : World) : Nat → List Oper → Prop
  | _, [] => True
  | i, o :: r => DrawStep P ops Q Rel Pr a0 w0 i o ∧ DrawSteps P ops Q Rel Pr a0 w0 (i + 1) r

theorem DrawSteps.get {a0 : Act} {w0 : World} : ∀ (l : List Oper) (k : Nat), DrawSteps P ops Q Rel Pr a0 w0 k l → ∀ (i : Nat) (o : Oper), l[i]? = some o → DrawStep P ops Q Rel Pr a0 w0 (k + i) o
  | [], _, _, i, o, h => by simp at h
  | x :: r, k, hs, i, o, h => by
    cases i with
    | zero => simp at h; subst h; exact hs.1
    | succ i =>
      have := DrawSteps.get r (k + 1) hs.2 i o (by simpa using h)
      rw [show k + (i + 1) = k + 1 + i by omega]; exact this

/-- The region's own text: each slot is written by one operation, within the frame, and hangs on earlier ones. -/
def drawB (ops : Array Oper) (n : Nat) : Bool :=
  decide ((ops.toList.filterMap (·.dst)).Nodup) && ops.all (fun o => match o.dst with | some d => decide (d < n) | none => false) &&
  (List.range ops.size).all fun i => match ops[i]? with | some o => o.after.all fun e => !Region.binds .any e || decide (e.on < i) | none => true

theorem nodup_dst : ∀ (l : List Oper) (i j : Nat) (oi oj : Oper) (d : Tmp), (l.filterMap (·.dst)).Nodup → l[i]? = some oi → l[j]? = some oj → oi.dst = some d → oj.dst = some d → i = j
  | [], i, _, _, _, _, _, h, _, _, _ => by simp at h
  | x :: r, i, j, oi, oj, d, hn, hi, hj, ei, ej => by
    have hm : ∀ (k : Nat) (o : Oper), r[k]? = some o → o.dst = some d → d ∈ r.filterMap (·.dst) := fun k o hk hd => List.mem_filterMap.2 ⟨o, List.mem_of_getElem? hk, hd⟩
    have hr : (r.filterMap (·.dst)).Nodup := by
      cases hx : x.dst with
      | none => simpa [hx] using hn
      | some y => simp [hx] at hn; exact hn.2
    cases i with
    | zero =>
      cases j with
      | zero => rfl
      | succ j =>
        simp at hi; subst hi
        have := hm j oj (by simpa using hj) ej
        simp only [List.filterMap_cons, ei, List.nodup_cons] at hn
        exact absurd this hn.1
    | succ i =>
      cases j with
      | zero =>
        simp at hj; subst hj
        have := hm i oi (by simpa using hi) ei
        simp only [List.filterMap_cons, ej, List.nodup_cons] at hn
        exact absurd this hn.1
      | succ j => rw [nodup_dst r i j oi oj d hr (by simpa using hi) (by simpa using hj) ei ej]

theorem count_set (l : List Bool) (i : Nat) (h : l[i]? = some false) : (l.set i true).count true = l.count true + 1 := by
  induction l generalizing i with
  | nil => simp at h
  | cons x r ih =>
    cases i with
    | zero => simp at h; subst h; simp
    | succ i =>
      have := ih i (by simpa using h)
      simp only [List.set_cons_succ, List.count_cons, this]
      omega

theorem all_true (l : List Bool) (h : l.length ≤ l.count true) : ∀ i, i < l.length → l[i]? = some true := by
  induction l with
  | nil => intro i hi; simp at hi
  | cons x r ih =>
    have hc : r.count true ≤ r.length := List.count_le_length
    intro i hi
    cases x with
    | false => simp at h; omega
    | true =>
      cases i with
      | zero => rfl
      | succ i => simp at h; simpa using ih h i (by simpa using hi)

/-- A region that draws its order: one step an operation. -/
theorem wp_region_drawn {id : Nat} {a0 : Act} {w0 : World} (hm : P.follows .mixedOrders = true) (hB : drawB ops a0.tmps.size = true)
    (h0 : Rel w0 w0.drew) (htr : ∀ a b c, Rel a b → Rel b c → Rel a c) (hmono : ∀ i v w w', Pr i v w → Rel w w' → Pr i v w')
    (hs : DrawSteps P ops Q Rel Pr a0 w0 0 ops.toList)
    (hfin : ∀ (a : Act) (w : World), a.defers = a0.defers → a.tmps.size = a0.tmps.size → (∀ s, (∀ (i : Nat) (o : Oper), ops[i]? = some o → o.dst ≠ some s) → a.tmps[s]? = a0.tmps[s]?) → (∀ (i : Nat) (o : Oper) (d : Tmp), ops[i]? = some o → o.dst = some d → Pr i (a.tmps.getD d undef) w) → Rel w0 w → Q .normal a w) :
    (Code.region id ops true).wp P Q a0 w0 := by
  unfold drawB at hB
  simp only [Bool.and_eq_true, decide_eq_true_eq] at hB
  obtain ⟨⟨hnd, hin⟩, hlow⟩ := hB
  have hstep : ∀ (i : Nat) (o : Oper), ops[i]? = some o → DrawStep P ops Q Rel Pr a0 w0 i o := fun i o hi => by
    have := DrawSteps.get ops.toList 0 hs i o (by simpa using hi)
    rwa [Nat.zero_add] at this
  have hdin : ∀ (i : Nat) (o : Oper) (d : Tmp), ops[i]? = some o → o.dst = some d → d < a0.tmps.size := fun i o d hi hd => by
    obtain ⟨hlt, rfl⟩ := Array.getElem?_eq_some_iff.1 hi
    have h1 := Array.all_eq_true.1 hin i hlt
    rw [hd] at h1
    simpa using h1
  have hsome : ∀ (i : Nat) (o : Oper), ops[i]? = some o → ∃ d, o.dst = some d := fun i o hi => by
    obtain ⟨hlt, rfl⟩ := Array.getElem?_eq_some_iff.1 hi
    have h1 := Array.all_eq_true.1 hin i hlt
    cases hd : ops[i].dst with
    | none => rw [hd] at h1; simp at h1
    | some d => exact ⟨d, rfl⟩
  have hback : ∀ (i : Nat) (o : Oper) (e : Edge), ops[i]? = some o → e ∈ o.after → Region.binds .any e = true → e.on < i := fun i o e hi he hb => by
    have hlt : i < ops.size := (Array.getElem?_eq_some_iff.1 hi).1
    have h1 := List.all_eq_true.1 hlow i (List.mem_range.2 hlt)
    rw [hi] at h1
    obtain ⟨k, hk, rfl⟩ := Array.mem_iff_getElem.1 he
    have h2 := Array.all_eq_true.1 h1 k hk
    rw [hb] at h2
    simpa using h2
  refine wp_region_any hm ?_
  have key : ∀ (fuel : Nat) (listed : Array Bool) (a : Act) (w : World), listed.size = ops.size → listed.toList.count true + fuel = ops.size → Drawn ops Rel Pr a0 w0 listed a w → wpAny P .any ops Q fuel listed a w := by
    intro fuel
    induction fuel with
    | zero =>
      intro listed a w hsz hc hD
      have hall := all_true listed.toList (by simp at hsz hc ⊢; omega)
      have hl : ∀ i, i < ops.size → listed.getD i true = true ∧ listed.getD i false = true := fun i hi => by
        have := hall i (by simpa [hsz] using hi)
        simp only [Array.getElem?_toList] at this
        simp [Array.getD_eq_getD_getElem?, this]
      refine ⟨?_, hfin a w hD.defers hD.size hD.keep (fun i o d hi hd => hD.val i o d hi (hl i (Array.getElem?_eq_some_iff.1 hi).1).2 hd) hD.rel⟩
      unfold Region.ready
      refine List.filter_eq_nil_iff.2 (fun i hi => ?_)
      rw [(hl i (List.mem_range.1 hi)).1]
      simp
    | succ fuel ih =>
      intro listed a w hsz hc hD
      refine ⟨fun hnil => ?_, fun i hi => ?_⟩
      · -- nothing may come up: all have
        have hall : ∀ n i, i < n → i < ops.size → listed.getD i false = true := by
          intro n
          induction n with
          | zero => intro i hi; omega
          | succ n ihn =>
            intro i hi hlt
            rcases Nat.lt_or_ge i n with h1 | h1
            · exact ihn i h1 hlt
            · have hno := List.filter_eq_nil_iff.1 (show (List.range ops.size).filter _ = [] from hnil) i (List.mem_range.2 hlt)
              obtain ⟨o, ho⟩ : ∃ o, ops[i]? = some o := ⟨_, Array.getElem?_eq_getElem hlt⟩
              have hrdy : ((ops[i]?).map (·.after.all fun e => !Region.binds .any e || listed.getD e.on false)).getD false = true := by
                rw [ho]
                simp only [Option.map_some, Option.getD_some]
                refine Array.all_eq_true.2 (fun k hk => ?_)
                cases hb : Region.binds .any o.after[k] with
                | false => simp
                | true =>
                  have hlt2 := hback i o _ ho (Array.getElem_mem hk) hb
                  have hq : listed.getD o.after[k].on false = true := ihn o.after[k].on (by omega) (by omega)
                  rw [hq]; simp
              rw [hrdy] at hno
              have hin' : i < listed.size := by omega
              simp [Array.getD_eq_getD_getElem?, hin'] at hno ⊢
              exact hno
        exact hfin a w hD.defers hD.size hD.keep (fun i o d hi hd => hD.val i o d hi (hall (i + 1) i (by omega) (Array.getElem?_eq_some_iff.1 hi).1) hd) hD.rel
      · unfold Region.ready at hi
        obtain ⟨hir, hcond⟩ := List.mem_filter.1 hi
        have hlt := List.mem_range.1 hir
        obtain ⟨o, ho⟩ : ∃ o, ops[i]? = some o := ⟨_, Array.getElem?_eq_getElem hlt⟩
        rw [ho] at hcond
        simp only [Option.map_some, Option.getD_some, Bool.and_eq_true, Bool.not_eq_true'] at hcond
        obtain ⟨hnot, hrdy⟩ := hcond
        have hin' : i < listed.size := by omega
        have hnot' : listed[i]? = some false := by
          simp [Array.getD_eq_getD_getElem?, hin'] at hnot ⊢
          exact hnot
        refine wpOp_step ho (fun K' hK' => ?_)
        refine hstep i o ho a w hD.rel ?_ hD.keep K' (fun v w' hv hr => hK' _ _ ?_)
        · intro j oj d hj hoj hd
          refine hD.val j oj d hoj ?_ hd
          obtain ⟨x, hx, hke⟩ := List.any_eq_true.1 hj
          obtain ⟨k, hk, rfl⟩ := Array.mem_iff_getElem.1 (Array.mem_toList_iff.1 hx)
          simp only [Bool.and_eq_true, beq_iff_eq] at hke
          have h2 := Array.all_eq_true.1 hrdy k hk
          rw [hke.2] at h2
          simp at h2
          have e : listed.getD o.after[k].on false = true := by simpa [Array.getD_eq_getD_getElem?] using h2
          rw [hke.1] at e
          exact e
        · obtain ⟨di, hdi⟩ := hsome i o ho
          refine ih _ _ _ (by simpa using hsz) ?_ ?_
          · have := count_set listed.toList i (by simpa using hnot')
            rw [Array.toList_setIfInBounds, this]
            omega
          · have hdlt := hdin i o di ho hdi
            have hput : a.put o.dst v = { a with tmps := a.tmps.setIfInBounds di v } := by rw [hdi]; rfl
            rw [hput]
            refine ⟨hD.defers, by simpa using hD.size, fun s hns => ?_, fun j oj d hj hlj hd => ?_, htr _ _ _ hD.rel hr⟩
            · have hne : di ≠ s := fun e => hns i o ho (by rw [hdi, e])
              simp only [Array.getElem?_setIfInBounds_ne hne]
              exact hD.keep s hns
            · by_cases hij : i = j
              · subst hij
                rw [ho] at hj
                cases hj
                rw [hdi] at hd
                cases hd
                have hs2 : di < a.tmps.size := by rw [hD.size]; exact hdlt
                simp [Array.getD_eq_getD_getElem?, hs2]
                exact hv
              · have hne : di ≠ d := fun e => hij (nodup_dst ops.toList i j o oj d hnd (by simpa using ho) (by simpa using hj) (by rw [hdi, e]) hd)
                have hl2 : listed.getD j false = true := by
                  simp only [Array.getD_eq_getD_getElem?, Array.getElem?_setIfInBounds_ne hij] at hlj ⊢
                  exact hlj
                have := hmono j _ w w' (hD.val j oj d hj hl2 hd) hr
                simp only [Array.getD_eq_getD_getElem?, Array.getElem?_setIfInBounds_ne hne] at this ⊢
                exact this
  refine key _ _ _ _ (by simp) (by simp [List.count_replicate]) ⟨rfl, rfl, fun _ _ => rfl, fun i o d hi hl _ => ?_, h0⟩
  simp [Array.getD_eq_getD_getElem?, (Array.getElem?_eq_some_iff.1 hi).1] at hl
/-- The frame behind the region: each slot that it writes holds what it holds. -/
def fillAll (f : Tmp → Value) : List Oper → List Value → List Value
  | [], t => t
  | o :: r, t => fillAll f r (match o.dst with | some d => t.set d (f d) | none => t)

theorem fillAll_len (f : Tmp → Value) : ∀ (l : List Oper) (t : List Value), (fillAll f l t).length = t.length
  | [], t => rfl
  | o :: r, t => by
    unfold fillAll
    rw [fillAll_len f r]
    split <;> simp

theorem fillAll_get (f : Tmp → Value) : ∀ (l : List Oper) (t : List Value) (s : Nat), s < t.length → (fillAll f l t)[s]? = if (∃ o ∈ l, o.dst = some s) then some (f s) else t[s]?
  | [], t, s, h => by simp [fillAll]
  | o :: r, t, s, h => by
    unfold fillAll
    have hl : s < (match o.dst with | some d => t.set d (f d) | none => t).length := by split <;> simpa using h
    rw [fillAll_get f r _ s hl]
    by_cases hr : ∃ o ∈ r, o.dst = some s
    · have h2 : ∃ o' ∈ o :: r, o'.dst = some s := by obtain ⟨x, hx, e⟩ := hr; exact ⟨x, by simp [hx], e⟩
      rw [if_pos hr, if_pos h2]
    · rw [if_neg hr]
      by_cases ho : o.dst = some s
      · have h2 : ∃ o' ∈ o :: r, o'.dst = some s := ⟨o, by simp, ho⟩
        rw [if_pos h2, ho]
        simp [h]
      · have h2 : ¬ ∃ o' ∈ o :: r, o'.dst = some s := by
          rintro ⟨x, hx, e⟩
          rcases List.mem_cons.1 hx with rfl | hx
          · exact ho e
          · exact hr ⟨x, hx, e⟩
        rw [if_neg h2]
        cases hd : o.dst with
        | none => rfl
        | some d =>
          have : d ≠ s := fun e => ho (by rw [hd, e])
          simp [this]

theorem act_filled {a : Act} {t : List Value} {ds : List Deferred} (hdf : a.defers = ds) (hsz : a.tmps.size = t.toArray.size)
    (hkp : ∀ s, (∀ (i : Nat) (o : Oper), ops[i]? = some o → o.dst ≠ some s) → a.tmps[s]? = t.toArray[s]?) : a = { tmps := (fillAll (fun d => a.tmps.getD d undef) ops.toList t).toArray, defers := ds } := by
  obtain ⟨tm, df⟩ := a
  dsimp only at hdf hsz hkp ⊢
  subst hdf
  congr 1
  refine Array.ext (by simp [fillAll_len]; simpa using hsz) (fun i h1 h2 => ?_)
  have h3 : i < t.length := by simpa [fillAll_len] using h2
  have hg := fillAll_get (fun d => tm.getD d undef) ops.toList t i h3
  have e : (fillAll (fun d => tm.getD d undef) ops.toList t).toArray[i]? = some (tm[i]'h1) := by
    simp only [List.getElem?_toArray]
    rw [hg]
    split
    · simp
    · rename_i hno
      have := hkp i (fun j o hj e => hno ⟨o, by simpa using List.mem_of_getElem? (l := ops.toList) (i := j) (by simpa using hj), e⟩)
      simp only [List.getElem?_toArray] at this
      rw [← this]
      simp [h1]
  have h4 := Array.getElem?_eq_getElem h2
  rw [e] at h4
  simpa using h4
end
end Go.Proofs.YtflapjehkgefdaaGreat
