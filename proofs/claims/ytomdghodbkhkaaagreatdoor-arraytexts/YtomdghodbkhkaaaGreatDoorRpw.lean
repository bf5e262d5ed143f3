/- The document's Print: its plain side. -/
import Derived.Test.YtomdghodbkhkaaaGreatDoorEvn
import Derived.Test.YtomdghodbkhkaaaGreatDoorRpc
import Derived.Test.YtomdghodbkhkaaaGreatDoorDrawAlv
import Derived.Test.YtomdghodbkhkaaaGreatDoorRun
import Derived.Test.YtomdghodbkhkaaaGreatDoorRl
import Derived.Test.YtomdghodbkhkaaaGreatDoorPrn
import Derived.BigQuiet
import Derived.Deep.DeepCutAuto
import Derived.Deep.CutBlock
namespace Go.Proofs.YtomdghodbkhkaaaGreatDoor
open Go.RowKit
set_option linter.unusedVariables false
set_option linter.unusedSimpArgs false

/-- Steady up to q. -/
def EP (R : List Nat) (q : Nat) : Prop := ∀ i, 1 ≤ i → i < q → R.getD i 0 + R.getD 0 0 = R.getD (i - 1) 0 + R.getD 1 0
theorem evn_is {R : List Nat} (hr : Rise R) {q : Nat} (h1 : 1 ≤ q) (hq : q ≤ R.length) (he : EP R q) (hs : q = R.length ∨ ¬ (R.getD q 0 + R.getD 0 0 = R.getD (q - 1) 0 + R.getD 1 0)) : evn R = q := by
  match R, hr, hq, he, hs with
  | [], _, hq, _, _ => simp at hq; omega
  | [a], _, hq, _, _ => simp at hq; simp [evn]; omega
  | a :: b :: t, hr, hq, he, hs =>
    have hab : a < b := by
      unfold Rise at hr
      rw [List.pairwise_cons] at hr
      exact hr.1 b (by simp)
    have hq2 : 2 ≤ q := by
      rcases Nat.lt_or_ge 1 q with h | h
      · exact h
      · obtain rfl : q = 1 := by omega
        rcases hs with h | h
        · simp at h
        · simp at h; omega
    have a1 : q - 2 ≤ evK (b - a) b t := by
      rw [evK_iff]
      refine ⟨by simp at hq; omega, fun i hi => ?_⟩
      have := he (i + 2) (by omega) (by omega)
      simp at this ⊢
      omega
    have a2 : ¬ q - 1 ≤ evK (b - a) b t := by
      rw [evK_iff]
      rintro ⟨h2, h3⟩
      have h4 := h3 (q - 2) (by omega)
      rcases hs with h | h
      · simp at h; omega
      · apply h
        obtain ⟨p, rfl⟩ : ∃ p, q = p + 2 := ⟨q - 2, by omega⟩
        simp at h4 ⊢
        omega
    show evK (b - a) b t + 2 = q
    omega

/-- What is told, and what is left. -/
def comb (O : List UInt8) (R : List Nat) : List UInt8 := if R = [] then O else if O = [] then prT R else O ++ 44 :: prT R
theorem comb_start (R : List Nat) : comb [] R = prT R := by
  unfold comb
  split
  · rename_i h; subst h; rfl
  · rw [if_pos rfl]
theorem comb_end (O : List UInt8) : comb O [] = O := by unfold comb; rw [if_pos rfl]
theorem prT_cons {R R' : List Nat} {r : Run} (h : runsL R = r :: runsL R') : prT R = textR r ++ (if R' = [] then [] else 44 :: prT R') := by
  unfold prT
  rw [h, List.map_cons]
  cases hR : R' with
  | nil => rw [runsL_nil, if_pos rfl]; simp [Lib.join_one]
  | cons x t =>
    rw [if_neg (by simp)]
    have hne : ∃ y ys, runsL (x :: t) = y :: ys := by rw [runsL_cons]; split <;> exact ⟨_, _, rfl⟩
    obtain ⟨y, ys, e⟩ := hne
    rw [e, List.map_cons, Lib.join_cons, Lib.join_cons]
    simp [Lib.joinTail]
theorem dig_ne (n : Nat) : dig n ≠ [] := by
  unfold dig
  split
  · simp
  · split
    · simp
    · split <;> simp
theorem textR_ne (r : Run) : textR r ≠ [] := by unfold textR; simp [dig_ne]
theorem comb_step {O : List UInt8} {R R' : List Nat} {r : Run} (hR : R ≠ []) (h : runsL R = r :: runsL R') : comb ((if O = [] then O else O ++ [44]) ++ textR r) R' = comb O R := by
  have hp := prT_cons h
  unfold comb
  rw [if_neg hR, hp]
  have ht := textR_ne r
  by_cases hO : O = []
  · rw [if_pos hO, if_pos hO]
    subst hO
    by_cases hR' : R' = []
    · rw [if_pos hR', if_pos hR']; simp
    · rw [if_neg hR', if_neg hR', if_neg (by simp [ht])]; simp
  · rw [if_neg hO, if_neg hO]
    by_cases hR' : R' = []
    · rw [if_pos hR', if_pos hR']; simp
    · rw [if_neg hR', if_neg hR', if_neg (by simp [hO])]; simp
theorem runs_small {a : Nat} {t : List Nat} (h : evn (a :: t) ≤ 2) : runsL (a :: t) = (a, a, 1) :: runsL t := by rw [runsL_cons, if_pos h]
theorem runs_big {R : List Nat} {n : Nat} (h : evn R = n) (h2 : 2 < n) : runsL R = (R.getD 0 0, R.getD (n - 1) 0, R.getD 1 0 - R.getD 0 0) :: runsL (R.drop n) := by
  cases R with
  | nil => simp [evn] at h; omega
  | cons a t => rw [runsL_cons, h, if_neg (by omega)]; simp
theorem textR_one (a : Nat) : textR (a, a, 1) = dig a := by unfold textR; simp
theorem rise_lt {R : List Nat} (h : Rise R) {i j : Nat} (hij : i < j) (hj : j < R.length) : R.getD i 0 < R.getD j 0 := by
  rw [List.getD_eq_getElem?_getD, List.getD_eq_getElem?_getD, List.getElem?_eq_getElem (by omega), List.getElem?_eq_getElem hj]
  exact List.pairwise_iff_getElem.1 h i j (by omega) hj hij
theorem textR_more {R : List Nat} {n : Nat} (hr : Rise R) (h2 : 2 < n) (hn : n ≤ R.length) : textR (R.getD 0 0, R.getD (n - 1) 0, R.getD 1 0 - R.getD 0 0) = dig (R.getD 0 0) ++ [45] ++ dig (R.getD (n - 1) 0) ++ (if 1 < R.getD 1 0 - R.getD 0 0 then 58 :: dig (R.getD 1 0 - R.getD 0 0) else []) := by
  unfold textR
  simp only
  rw [if_pos (rise_lt hr (by omega) (by omega))]
  simp
end Go.Proofs.YtomdghodbkhkaaaGreatDoor

namespace Go.Proofs.YtomdghodbkhkaaaGreatDoor
open Go.RowKit

section
variable {P : Program} {ops : Array Oper} {Q : Exit → Act → World → Prop} {Wd : (Nat → Bool) → (Nat → Value) → World → Prop} {Pv : Nat → Value → Prop}

/-- What stands between two operations. -/
structure DrawnO (ops : Array Oper) (Wd : (Nat → Bool) → (Nat → Value) → World → Prop) (Pv : Nat → Value → Prop) (a0 : Act) (listed : Array Bool) (a : Act) (w : World) : Prop where
  defers : a.defers = a0.defers
  size : a.tmps.size = a0.tmps.size
  keep : ∀ s, (∀ (i : Nat) (o : Oper), ops[i]? = some o → o.dst ≠ some s) → a.tmps[s]? = a0.tmps[s]?
  val : ∀ (i : Nat) (o : Oper) (d : Tmp), ops[i]? = some o → listed.getD i false = true → o.dst = some d → Pv i (a.tmps.getD d undef)
  wd : Wd (upAt listed) (valAt ops a) w
  cl : Clos ops (upAt listed)
  old : ∀ (i : Nat) (o : Oper) (d : Tmp), ops[i]? = some o → listed.getD i false = false → o.dst = some d → a.tmps[d]? = a0.tmps[d]?

/-- One operation: L tells which have come up. -/
def AloStep (P : Program) (ops : Array Oper) (Q : Exit → Act → World → Prop) (Wd : (Nat → Bool) → (Nat → Value) → World → Prop) (Pv : Nat → Value → Prop) (a0 : Act) (i : Nat) (o : Oper) : Prop :=
  ∀ (a : Act) (w : World) (L : Nat → Bool), L i = false → (∀ e ∈ o.after.toList, Region.binds .any e = true → L e.on = true) → Clos ops L → Wd L (valAt ops a) w →
    (∀ (j : Nat) (oj : Oper) (d : Tmp), (o.after.toList.any fun e => e.on == j && Region.binds .any e) = true → ops[j]? = some oj → oj.dst = some d → Pv j (a.tmps.getD d undef)) →
    (∀ s, (∀ (i : Nat) (o : Oper), ops[i]? = some o → o.dst ≠ some s) → a.tmps[s]? = a0.tmps[s]?) →
    (∀ (j : Nat) (oj : Oper) (d : Tmp), ops[j]? = some oj → L j = false → oj.dst = some d → a.tmps[d]? = a0.tmps[d]?) →
    ∀ K : Act → World → Prop, (∀ v w', (o.dst ≠ none → Pv i v) → (∀ L' V', L' i = true → (∀ j, j ≠ i → L' j = L j) → (o.dst ≠ none → V' i = v) → (∀ j, j ≠ i → V' j = valAt ops a j) → Wd L' V' w') → K (a.put o.dst v) w') → if Region.wanted o (yielded ops a.tmps) = true then Oper.wp P o a w K Q else K (a.put o.dst undef) w

def AloSteps (P : Program) (ops : Array Oper) (Q : Exit → Act → World → Prop) (Wd : (Nat → Bool) → (Nat → Value) → World → Prop) (Pv : Nat → Value → Prop) (a0 : Act) : Nat → List Oper → Prop
  | _, [] => True
  | i, o :: r => AloStep P ops Q Wd Pv a0 i o ∧ AloSteps P ops Q Wd Pv a0 (i + 1) r

theorem AloSteps.get {a0 : Act} : ∀ (l : List Oper) (k : Nat), AloSteps P ops Q Wd Pv a0 k l → ∀ (i : Nat) (o : Oper), l[i]? = some o → AloStep P ops Q Wd Pv a0 (k + i) o
  | [], _, _, i, o, h => by simp at h
  | x :: r, k, hs, i, o, h => by
    cases i with
    | zero => simp at h; subst h; exact hs.1
    | succ i =>
      have := AloSteps.get r (k + 1) hs.2 i o (by simpa using h)
      rw [show k + (i + 1) = k + 1 + i by omega]; exact this

theorem wp_region_alo {id : Nat} {a0 : Act} {w0 : World} (hm : P.follows .mixedOrders = true) (hB : alvB ops a0.tmps.size = true)
    (h0 : ∀ L V, (∀ j, L j = false) → Wd L V w0.drew) (hs : AloSteps P ops Q Wd Pv a0 0 ops.toList)
    (hfin : ∀ (a : Act) (w : World), a.defers = a0.defers → a.tmps.size = a0.tmps.size → (∀ s, (∀ (i : Nat) (o : Oper), ops[i]? = some o → o.dst ≠ some s) → a.tmps[s]? = a0.tmps[s]?) → (∀ (i : Nat) (o : Oper) (d : Tmp), ops[i]? = some o → o.dst = some d → Pv i (a.tmps.getD d undef)) → (∃ L, (∀ j, j < ops.size → L j = true) ∧ Wd L (valAt ops a) w) → Q .normal a w) :
    (Code.region id ops true).wp P Q a0 w0 := by
  unfold alvB at hB
  simp only [Bool.and_eq_true, decide_eq_true_eq] at hB
  obtain ⟨⟨hnd, hin⟩, hlow⟩ := hB
  have hstep : ∀ (i : Nat) (o : Oper), ops[i]? = some o → AloStep P ops Q Wd Pv a0 i o := fun i o hi => by
    have := AloSteps.get ops.toList 0 hs i o (by simpa using hi)
    rwa [Nat.zero_add] at this
  have hdin : ∀ (i : Nat) (o : Oper) (d : Tmp), ops[i]? = some o → o.dst = some d → d < a0.tmps.size := fun i o d hi hd => by
    obtain ⟨hlt, rfl⟩ := Array.getElem?_eq_some_iff.1 hi
    have h1 := Array.all_eq_true.1 hin i hlt
    rw [hd] at h1
    simpa using h1
  have hback : ∀ (i : Nat) (o : Oper) (e : Edge), ops[i]? = some o → e ∈ o.after → Region.binds .any e = true → e.on < i := fun i o e hi he hb => by
    have hlt : i < ops.size := (Array.getElem?_eq_some_iff.1 hi).1
    have h1 := List.all_eq_true.1 hlow i (List.mem_range.2 hlt)
    rw [hi] at h1
    obtain ⟨k, hk, rfl⟩ := Array.mem_iff_getElem.1 he
    have h2 := Array.all_eq_true.1 h1 k hk
    rw [hb] at h2
    simpa using h2
  refine wp_region_any hm ?_
  have key : ∀ (fuel : Nat) (listed : Array Bool) (a : Act) (w : World), listed.size = ops.size → listed.toList.count true + fuel = ops.size → DrawnO ops Wd Pv a0 listed a w → wpAny P .any ops Q fuel listed a w := by
    intro fuel
    induction fuel with
    | zero =>
      intro listed a w hsz hc hD
      have hall := all_true listed.toList (by simp at hsz hc ⊢; omega)
      have hl : ∀ i, i < ops.size → listed.getD i true = true ∧ listed.getD i false = true := fun i hi => by
        have := hall i (by simpa [hsz] using hi)
        simp only [Array.getElem?_toList] at this
        simp [Array.getD_eq_getD_getElem?, this]
      refine ⟨?_, hfin a w hD.defers hD.size hD.keep (fun i o d hi hd => hD.val i o d hi (hl i (Array.getElem?_eq_some_iff.1 hi).1).2 hd) ⟨upAt listed, fun j hj => (hl j hj).2, hD.wd⟩⟩
      unfold Region.ready
      refine List.filter_eq_nil_iff.2 (fun i hi => ?_)
      rw [(hl i (List.mem_range.1 hi)).1]
      simp
    | succ fuel ih =>
      intro listed a w hsz hc hD
      refine ⟨fun hnil => ?_, fun i hi => ?_⟩
      · have hall : ∀ n i, i < n → i < ops.size → listed.getD i false = true := by
          intro n
          induction n with
          | zero => intro i hi; omega
          | succ n ihn =>
            intro i hi hlt
            rcases Nat.lt_or_ge i n with h1 | h1
            · exact ihn i h1 hlt
            · have hno := List.filter_eq_nil_iff.1 (show (List.range ops.size).filter _ = [] from hnil) i (List.mem_range.2 hlt)
              obtain ⟨o, ho⟩ : ∃ o, ops[i]? = some o := ⟨_, Array.getElem?_eq_getElem hlt⟩
              have hrdy : ((ops[i]?).map (·.after.all fun e => !Region.binds .any e || listed.getD e.on false)).getD false = true := by
                rw [ho]
                simp only [Option.map_some, Option.getD_some]
                refine Array.all_eq_true.2 (fun k hk => ?_)
                cases hb : Region.binds .any o.after[k] with
                | false => simp
                | true =>
                  have hlt2 := hback i o _ ho (Array.getElem_mem hk) hb
                  have hq : listed.getD o.after[k].on false = true := ihn o.after[k].on (by omega) (by omega)
                  rw [hq]; simp
              rw [hrdy] at hno
              have hin' : i < listed.size := by omega
              simp [Array.getD_eq_getD_getElem?, hin'] at hno ⊢
              exact hno
        exact hfin a w hD.defers hD.size hD.keep (fun i o d hi hd => hD.val i o d hi (hall (i + 1) i (by omega) (Array.getElem?_eq_some_iff.1 hi).1) hd) ⟨upAt listed, fun j hj => hall (j + 1) j (by omega) hj, hD.wd⟩
      · unfold Region.ready at hi
        obtain ⟨hir, hcond⟩ := List.mem_filter.1 hi
        have hlt := List.mem_range.1 hir
        obtain ⟨o, ho⟩ : ∃ o, ops[i]? = some o := ⟨_, Array.getElem?_eq_getElem hlt⟩
        rw [ho] at hcond
        simp only [Option.map_some, Option.getD_some, Bool.and_eq_true, Bool.not_eq_true'] at hcond
        obtain ⟨hnot, hrdy⟩ := hcond
        have hin' : i < listed.size := by omega
        have hnot' : listed[i]? = some false := by
          simp [Array.getD_eq_getD_getElem?, hin'] at hnot ⊢
          exact hnot
        have hup : ∀ e ∈ o.after.toList, Region.binds .any e = true → upAt listed e.on = true := fun e he hb => by
          obtain ⟨k, hk, rfl⟩ := Array.mem_iff_getElem.1 (Array.mem_toList_iff.1 he)
          have h2 := Array.all_eq_true.1 hrdy k hk
          rw [hb] at h2
          simpa [upAt] using h2
        refine wpOp_step ho (fun K' hK' => ?_)
        refine hstep i o ho a w (upAt listed) (by simp [upAt, Array.getD_eq_getD_getElem?, hnot']) hup hD.cl hD.wd ?_ hD.keep (fun j oj d hj hl hd => hD.old j oj d hj hl hd) K' (fun v w' hv hr => hK' _ _ ?_)
        · intro j oj d hj hoj hd
          refine hD.val j oj d hoj ?_ hd
          obtain ⟨x, hx, hke⟩ := List.any_eq_true.1 hj
          simp only [Bool.and_eq_true, beq_iff_eq] at hke
          rw [← hke.1]
          exact hup x hx hke.2
        · have hgs : ∀ j, j ≠ i → (listed.setIfInBounds i true).getD j false = listed.getD j false := fun j hj => by
            simp only [Array.getD_eq_getD_getElem?, Array.getElem?_setIfInBounds_ne (Ne.symm hj)]
          have hgi : (listed.setIfInBounds i true).getD i false = true := by simp [Array.getD_eq_getD_getElem?, hin']
          refine ih _ _ _ (by simpa using hsz) ?_ ?_
          · have := count_set listed.toList i (by simpa using hnot')
            rw [Array.toList_setIfInBounds, this]
            omega
          · have hne' : ∀ j, j ≠ i → valAt ops (a.put o.dst v) j = valAt ops a j := fun j hj => by
              cases hoj : (ops[j]?).bind (·.dst) with
              | none => rw [valAt_no hoj, valAt_no hoj]
              | some d =>
                obtain ⟨oj, hj1, hj2⟩ := Option.bind_eq_some_iff.1 hoj
                rw [valAt_of hj1 hj2, valAt_of hj1 hj2]
                cases hdi : o.dst with
                | none => rfl
                | some di =>
                  have hne : di ≠ d := fun e => hj (nodup_dst ops.toList i j o oj d hnd (by simpa using ho) (by simpa using hj1) (by rw [hdi, e]) hj2).symm
                  simp only [Act.put, Array.getD_eq_getD_getElem?, Array.getElem?_setIfInBounds_ne hne]
            have hi' : o.dst ≠ none → valAt ops (a.put o.dst v) i = v := fun hn => by
              cases hdi : o.dst with
              | none => exact absurd hdi hn
              | some di =>
                have hs2 : di < a.tmps.size := by rw [hD.size]; exact hdin i o di ho hdi
                rw [valAt_of ho hdi]
                simp [Act.put, Array.getD_eq_getD_getElem?, hs2]
            have hwd := hr (upAt (listed.setIfInBounds i true)) (valAt ops (a.put o.dst v)) hgi hgs hi' hne'
            have hcl : Clos ops (upAt (listed.setIfInBounds i true)) := fun j oj hj hlj e he hb => by
              by_cases hei : e.on = i
              · rw [hei]; exact hgi
              · by_cases hji : j = i
                · subst hji
                  rw [ho] at hj
                  cases hj
                  exact (hgs _ hei).trans (hup e he hb)
                · exact (hgs _ hei).trans (hD.cl j oj hj ((hgs j hji).symm.trans hlj) e he hb)
            revert hwd
            cases hdi : o.dst with
            | none =>
              intro hwd
              refine ⟨hD.defers, hD.size, hD.keep, fun j oj d hj hlj hd => ?_, hwd, hcl, fun j oj d hj hlj hd => ?_⟩
              rotate_left
              · have hij : j ≠ i := fun e => by
                  subst e
                  simp [Array.getD_eq_getD_getElem?, hin'] at hlj
                rw [hgs j hij] at hlj
                exact hD.old j oj d hj hlj hd
              by_cases hij : j = i
              · subst hij
                rw [ho] at hj
                cases hj
                rw [hdi] at hd
                cases hd
              · rw [hgs j hij] at hlj
                exact hD.val j oj d hj hlj hd
            | some di =>
              intro hwd
              have hdlt := hdin i o di ho hdi
              refine ⟨hD.defers, by simpa [Act.put] using hD.size, fun s hns => ?_, fun j oj d hj hlj hd => ?_, hwd, hcl, fun j oj d hj hlj hd => ?_⟩
              rotate_left 2
              · have hij : j ≠ i := fun e => by
                  subst e
                  simp [Array.getD_eq_getD_getElem?, hin'] at hlj
                have hne : di ≠ d := fun e => hij (nodup_dst ops.toList i j o oj d hnd (by simpa using ho) (by simpa using hj) (by rw [hdi, e]) hd).symm
                rw [hgs j hij] at hlj
                simp only [Act.put, Array.getElem?_setIfInBounds_ne hne]
                exact hD.old j oj d hj hlj hd
              · have hne : di ≠ s := fun e => hns i o ho (by rw [hdi, e])
                simp only [Act.put, Array.getElem?_setIfInBounds_ne hne]
                exact hD.keep s hns
              · by_cases hij : i = j
                · subst hij
                  rw [ho] at hj
                  cases hj
                  rw [hdi] at hd
                  cases hd
                  have hs2 : di < a.tmps.size := by rw [hD.size]; exact hdlt
                  simp [Act.put, Array.getD_eq_getD_getElem?, hs2]
                  exact hv (by rw [hdi]; simp)
                · have hne : di ≠ d := fun e => hij (nodup_dst ops.toList i j o oj d hnd (by simpa using ho) (by simpa using hj) (by rw [hdi, e]) hd)
                  rw [hgs j (Ne.symm hij)] at hlj
                  have := hD.val j oj d hj hlj hd
                  simp only [Act.put, Array.getD_eq_getD_getElem?, Array.getElem?_setIfInBounds_ne hne] at this ⊢
                  exact this
  refine key _ _ _ _ (by simp) (by simp [List.count_replicate]) ⟨rfl, rfl, fun _ _ => rfl, fun i o d hi hl _ => ?_, ?_, fun i o hi hl => ?_, fun _ _ _ _ _ _ => rfl⟩
  · simp [Array.getD_eq_getD_getElem?, (Array.getElem?_eq_some_iff.1 hi).1] at hl
  · refine h0 _ _ (fun j => ?_)
    simp only [upAt, Array.getD_eq_getD_getElem?, Array.getElem?_replicate]
    split <;> rfl
  · simp [upAt, Array.getD_eq_getD_getElem?, (Array.getElem?_eq_some_iff.1 hi).1] at hl
end
end Go.Proofs.YtomdghodbkhkaaaGreatDoor

namespace Go.Proofs.YtomdghodbkhkaaaGreatDoor
open Go.RowKit
set_option linter.unusedVariables false
set_option linter.unusedSimpArgs false

set_option maxRecDepth 100000 in
set_option maxHeartbeats 4000000 in
theorem pr_r13 {FF : Act → World → Prop} {w : World} {b o n0 c p A B : Nat} {SO SA SB S1 S2 S3 : ByteArray} {c1 c2 c3 c6 c7 c8 c9 c10 c11 c12 c13 c14 c15 c16 c17 c18 c19 c20 c21 c22 c23 c24 c25 c26 c27 c28 c29 c30 c31 c32 c33 c34 c35 c36 c37 c38 c39 c40 c41 c42 c43 c44 c45 c46 c47 c48 c49 c50 c51 c52 c53 c54 c55 c56 c57 c58 c59 c60 c61 c62 c63 c64 c65 c66 c67 c68 c69 c70 c71 c72 c73 c74 c75 c76 c77 c78 c79 c80 c81 c82 c83 c84 c85 c86 c87 c88 c89 c90 c91 c92 : Value}
    (hp : p < n0) (hp2 : p ≤ 100) (hA : Hid (w.cell? ⟨b, o, none⟩ = some (.int .i64 (A : Int)))) (hB : Hid (w.cell? ⟨b, o + p, none⟩ = some (.int .i64 (B : Int))))
    (kA : Hid (∀ w, Calls Tryz.prog 28 #[.int .i64 (A : Int)] w fun e w' => e = .returned (.string SA) ∧ Below w.heap.size w w')) (kB : Hid (∀ w, Calls Tryz.prog 28 #[.int .i64 (B : Int)] w fun e w' => e = .returned (.string SB) ∧ Below w.heap.size w w'))
    (z1 : SO.size ≤ 1000) (z2 : SA.size ≤ 1000) (z3 : SB.size ≤ 1000) (z4 : S1.size ≤ 3000) (z5 : S2.size ≤ 3000) (h1 : Hid (SO ++ SA = S1)) (h2 : Hid (S1 ++ ⟨#[45]⟩ = S2)) (h3 : Hid (S2 ++ SB = S3))
    (hQ : Hid (∀ (d56 d57 d58 d59 d60 d61 d62 d63 d64 d65 d66 d67 d68 d69 : Value) (w' : World), Below w.heap.size w w' → FF ⟨#[.slice (some ⟨b, o, none⟩) n0 c, c1, c2, c3, .string S3, .int .i64 ((p : Int) + 1), c6, c7, c8, c9, c10, c11, c12, c13, c14, c15, c16, c17, c18, c19, c20, c21, c22, c23, c24, c25, c26, c27, c28, c29, c30, c31, c32, c33, c34, c35, c36, c37, c38, c39, c40, c41, c42, c43, c44, c45, c46, c47, c48, c49, c50, c51, c52, c53, c54, c55, d56, d57, d58, d59, d60, d61, d62, d63, d64, d65, d66, d67, d68, d69, c70, c71, c72, c73, c74, c75, c76, c77, c78, c79, c80, c81, c82, c83, c84, c85, c86, c87, c88, c89, c90, c91, c92], []⟩ w')) :
    Code.wp Tryz.prog ((Tryz.f9.body.bind (regAt 13)).getD .skip) (Nrm FF) ⟨#[.slice (some ⟨b, o, none⟩) n0 c, c1, c2, c3, .string SO, .int .i64 ((p : Int) + 1), c6, c7, c8, c9, c10, c11, c12, c13, c14, c15, c16, c17, c18, c19, c20, c21, c22, c23, c24, c25, c26, c27, c28, c29, c30, c31, c32, c33, c34, c35, c36, c37, c38, c39, c40, c41, c42, c43, c44, c45, c46, c47, c48, c49, c50, c51, c52, c53, c54, c55, c56, c57, c58, c59, c60, c61, c62, c63, c64, c65, c66, c67, c68, c69, c70, c71, c72, c73, c74, c75, c76, c77, c78, c79, c80, c81, c82, c83, c84, c85, c86, c87, c88, c89, c90, c91, c92], []⟩ w := by
  conv => arg 2; whnf
  refine wp_region_alo (Wd := fun L V w1 => Below w.heap.size w w1) (Pv := fun i v => v = [.string SO, .slice (some ⟨b, o, none⟩) n0 c, .pointer (some ⟨b, o, none⟩), .int .i64 (A : Int), .string SA, .string S1, .string S2, .slice (some ⟨b, o, none⟩) n0 c, .int .i64 ((p : Int) + 1), .int .i64 (p : Int), .pointer (some ⟨b, o + p, none⟩), .int .i64 (B : Int), .string SB, .string S3, .string S3].getD i undef) (by kernel_rfl) (by kernel_rfl) ?_ ?_ ?_
  · exact fun L V hL => drew_below w
  · refine ⟨?_, ?_, ?_, ?_, ?_, ?_, ?_, ?_, ?_, ?_, ?_, ?_, ?_, ?_, ?_, trivial⟩
    · intro ac w1 L hL hup hcl hW hd hk hold Kx hK
      exact yes (want_n rfl) (wp_mv _ rfl _ (get_keep (hold 14 _ 4 rfl (not_yet hcl 15 (j := 0) (by kernel_rfl) hL) rfl) rfl) (hK _ w1 (fun _ => rfl) (fun _ _ _ _ _ _ => hW)))
    · intro ac w1 L hL hup hcl hW hd hk hold Kx hK
      exact yes (want_n rfl) (wp_mv _ rfl _ (get_keep (hk 0 (no_dst (by kernel_rfl))) rfl) (hK _ w1 (fun _ => rfl) (fun _ _ _ _ _ _ => hW)))
    · intro ac w1 L hL hup hcl hW hd hk hold Kx hK
      have e57 : ac.tmps[57]?.getD undef = (.slice (some ⟨b, o, none⟩) n0 c : Value) := slot (hd 1 _ 57 rfl rfl rfl)
      have i1 : (p : Int) < (n0 : Int) := by omega
      have i0 : (0 : Int) < (n0 : Int) := by omega
      have i0n : 0 < n0 := by omega
      refine yes (want_n rfl) ?_
      have hv := hid (hK (.pointer (some ⟨b, o, none⟩)) w1 (fun _ => rfl) (fun _ _ _ _ _ _ => hW))
      clear hK hd hk hold hcl hL hup
      go_simp
      exact kq hv.out rfl
    · intro ac w1 L hL hup hcl hW hd hk hold Kx hK
      have e58 : ac.tmps[58]?.getD undef = (.pointer (some ⟨b, o, none⟩) : Value) := slot (hd 2 _ 58 rfl rfl rfl)
      have x0 := stay hW hA.out
      refine yes (want_n rfl) ?_
      have hv := hid (hK (.int .i64 (A : Int)) w1 (fun _ => rfl) (fun _ _ _ _ _ _ => hW))
      clear hK hd hk hold hcl hL hup
      go_simp
      exact kq hv.out rfl
    · intro ac w1 L hL hup hcl hW hd hk hold Kx hK
      exact yes (want_n rfl) (wp_callv 28 _ _ rfl _ Tryz.func28 rfl rfl _ (args1 (hd 3 _ 59 rfl rfl rfl)) (kA.out w1) (by rintro e w2 ⟨rfl, hb⟩; exact ⟨_, rfl, hK _ w2 (fun _ => rfl) (fun _ _ _ _ _ _ => bnext hW hb)⟩))
    · intro ac w1 L hL hup hcl hW hd hk hold Kx hK
      have e56 : ac.tmps[56]?.getD undef = (.string SO : Value) := slot (hd 0 _ 56 rfl rfl rfl)
      have e60 : ac.tmps[60]?.getD undef = (.string SA : Value) := slot (hd 4 _ 60 rfl rfl rfl)
      have ngt : ¬ (9223372036854775807 < SO.size + SA.size) := by omega
      refine yes (want_n rfl) ?_
      have hv := hid (hK (.string S1) w1 (fun _ => rfl) (fun _ _ _ _ _ _ => hW))
      clear hK hd hk hold hcl hL hup
      go_simp
      exact kq hv.out (by rw [h1.out])
    · intro ac w1 L hL hup hcl hW hd hk hold Kx hK
      have e61 : ac.tmps[61]?.getD undef = (.string S1 : Value) := slot (hd 5 _ 61 rfl rfl rfl)
      have ngt : ¬ (9223372036854775807 < S1.size + 1) := by omega
      have q1 : (⟨#[45]⟩ : ByteArray).size = 1 := rfl
      refine yes (want_n rfl) ?_
      have hv := hid (hK (.string S2) w1 (fun _ => rfl) (fun _ _ _ _ _ _ => hW))
      clear hK hd hk hold hcl hL hup
      go_simp
      exact kq hv.out (by rw [h2.out])
    · intro ac w1 L hL hup hcl hW hd hk hold Kx hK
      exact yes (want_n rfl) (wp_mv _ rfl _ (get_keep (hk 0 (no_dst (by kernel_rfl))) rfl) (hK _ w1 (fun _ => rfl) (fun _ _ _ _ _ _ => hW)))
    · intro ac w1 L hL hup hcl hW hd hk hold Kx hK
      exact yes (want_n rfl) (wp_mv _ rfl _ (get_keep (hk 5 (no_dst (by kernel_rfl))) rfl) (hK _ w1 (fun _ => rfl) (fun _ _ _ _ _ _ => hW)))
    · intro ac w1 L hL hup hcl hW hd hk hold Kx hK
      have e64 : ac.tmps[64]?.getD undef = (.int .i64 ((p : Int) + 1) : Value) := slot (hd 8 _ 64 rfl rfl rfl)
      have hwm : IntKind.i64.wrap (p : Int) = (p : Int) := by simp [IntKind.wrap, IntKind.bits, IntKind.signed]; omega
      refine yes (want_n rfl) ?_
      have hv := hid (hK (.int .i64 (p : Int)) w1 (fun _ => rfl) (fun _ _ _ _ _ _ => hW))
      clear hK hd hk hold hcl hL hup
      go_simp
      exact kq hv.out rfl
    · intro ac w1 L hL hup hcl hW hd hk hold Kx hK
      have e63 : ac.tmps[63]?.getD undef = (.slice (some ⟨b, o, none⟩) n0 c : Value) := slot (hd 7 _ 63 rfl rfl rfl)
      have e65 : ac.tmps[65]?.getD undef = (.int .i64 (p : Int) : Value) := slot (hd 9 _ 65 rfl rfl rfl)
      have i1 : (p : Int) < (n0 : Int) := by omega
      have i0 : (0 : Int) < (n0 : Int) := by omega
      have i0n : 0 < n0 := by omega
      refine yes (want_n rfl) ?_
      have hv := hid (hK (.pointer (some ⟨b, o + p, none⟩)) w1 (fun _ => rfl) (fun _ _ _ _ _ _ => hW))
      clear hK hd hk hold hcl hL hup
      go_simp
      exact kq hv.out rfl
    · intro ac w1 L hL hup hcl hW hd hk hold Kx hK
      have e66 : ac.tmps[66]?.getD undef = (.pointer (some ⟨b, o + p, none⟩) : Value) := slot (hd 10 _ 66 rfl rfl rfl)
      have x0 := stay hW hB.out
      refine yes (want_n rfl) ?_
      have hv := hid (hK (.int .i64 (B : Int)) w1 (fun _ => rfl) (fun _ _ _ _ _ _ => hW))
      clear hK hd hk hold hcl hL hup
      go_simp
      exact kq hv.out rfl
    · intro ac w1 L hL hup hcl hW hd hk hold Kx hK
      exact yes (want_n rfl) (wp_callv 28 _ _ rfl _ Tryz.func28 rfl rfl _ (args1 (hd 11 _ 67 rfl rfl rfl)) (kB.out w1) (by rintro e w2 ⟨rfl, hb⟩; exact ⟨_, rfl, hK _ w2 (fun _ => rfl) (fun _ _ _ _ _ _ => bnext hW hb)⟩))
    · intro ac w1 L hL hup hcl hW hd hk hold Kx hK
      have e62 : ac.tmps[62]?.getD undef = (.string S2 : Value) := slot (hd 6 _ 62 rfl rfl rfl)
      have e68 : ac.tmps[68]?.getD undef = (.string SB : Value) := slot (hd 12 _ 68 rfl rfl rfl)
      have ngt : ¬ (9223372036854775807 < S2.size + SB.size) := by omega
      refine yes (want_n rfl) ?_
      have hv := hid (hK (.string S3) w1 (fun _ => rfl) (fun _ _ _ _ _ _ => hW))
      clear hK hd hk hold hcl hL hup
      go_simp
      exact kq hv.out (by rw [h3.out])
    · intro ac w1 L hL hup hcl hW hd hk hold Kx hK
      exact yes (want_n rfl) (wp_as _ rfl _ (hd 13 _ 69 rfl rfl rfl) (hK _ w1 (fun _ => rfl) (fun _ _ _ _ _ _ => hW)))
  · intro ac w1 hdf hsz hkp hval hRw
    obtain ⟨_, _, hRw⟩ := hRw
    obtain ⟨ff, hf⟩ : ∃ ff, ff = fun d => ac.tmps.getD d undef := ⟨_, rfl⟩
    have h4 : ff 4 = .string S3 := by rw [hf]; exact hval 14 _ 4 rfl rfl
    have hfa := act_filled hdf hsz hkp
    rw [← hf] at hfa
    rw [hfa]
    clear hdf hsz hkp hval hfa hf
    clear ac
    simp only [fillAll, List.set_cons_zero, List.set_cons_succ, h4]
    exact hQ.out _ _ _ _ _ _ _ _ _ _ _ _ _ _ w1 hRw

set_option maxRecDepth 100000 in
set_option maxHeartbeats 4000000 in
theorem pr_r15 {FF : Act → World → Prop} {w : World} {b o n0 c C D E : Nat} {SO SA S1 S2 : ByteArray} {c1 c2 c3 c5 c6 c7 c8 c9 c10 c11 c12 c13 c14 c15 c16 c17 c18 c19 c20 c21 c22 c23 c24 c25 c26 c27 c28 c29 c30 c31 c32 c33 c34 c35 c36 c37 c38 c39 c40 c41 c42 c43 c44 c45 c46 c47 c48 c49 c50 c51 c52 c53 c54 c55 c56 c57 c58 c59 c60 c61 c62 c63 c64 c65 c66 c67 c68 c69 c70 c71 c72 c73 c74 c75 c76 c77 c78 c79 c80 c81 c82 c83 c84 c85 c86 c87 c88 c89 c90 c91 c92 : Value}
    (hn : 1 < n0) (hC : Hid (w.cell? ⟨b, o + 1, none⟩ = some (.int .i64 (C : Int)))) (hD : Hid (w.cell? ⟨b, o, none⟩ = some (.int .i64 (D : Int)))) (hE : Hid (IntKind.i64.wrap ((C : Int) - (D : Int)) = (E : Int)))
    (kA : Hid (∀ w, Calls Tryz.prog 28 #[.int .i64 (E : Int)] w fun e w' => e = .returned (.string SA) ∧ Below w.heap.size w w'))
    (z1 : SO.size ≤ 3000) (z2 : SA.size ≤ 1000) (z3 : S1.size ≤ 3001) (h1 : Hid (SO ++ ⟨#[58]⟩ = S1)) (h2 : Hid (S1 ++ SA = S2))
    (hQ : Hid (∀ (d78 d79 d80 d81 d82 d83 d84 d85 d86 d87 d88 : Value) (w' : World), Below w.heap.size w w' → FF ⟨#[.slice (some ⟨b, o, none⟩) n0 c, c1, c2, c3, .string S2, c5, c6, c7, c8, c9, c10, c11, c12, c13, c14, c15, c16, c17, c18, c19, c20, c21, c22, c23, c24, c25, c26, c27, c28, c29, c30, c31, c32, c33, c34, c35, c36, c37, c38, c39, c40, c41, c42, c43, c44, c45, c46, c47, c48, c49, c50, c51, c52, c53, c54, c55, c56, c57, c58, c59, c60, c61, c62, c63, c64, c65, c66, c67, c68, c69, c70, c71, c72, c73, c74, c75, c76, c77, d78, d79, d80, d81, d82, d83, d84, d85, d86, d87, d88, c89, c90, c91, c92], []⟩ w')) :
    Code.wp Tryz.prog ((Tryz.f9.body.bind (regAt 15)).getD .skip) (Nrm FF) ⟨#[.slice (some ⟨b, o, none⟩) n0 c, c1, c2, c3, .string SO, c5, c6, c7, c8, c9, c10, c11, c12, c13, c14, c15, c16, c17, c18, c19, c20, c21, c22, c23, c24, c25, c26, c27, c28, c29, c30, c31, c32, c33, c34, c35, c36, c37, c38, c39, c40, c41, c42, c43, c44, c45, c46, c47, c48, c49, c50, c51, c52, c53, c54, c55, c56, c57, c58, c59, c60, c61, c62, c63, c64, c65, c66, c67, c68, c69, c70, c71, c72, c73, c74, c75, c76, c77, c78, c79, c80, c81, c82, c83, c84, c85, c86, c87, c88, c89, c90, c91, c92], []⟩ w := by
  conv => arg 2; whnf
  refine wp_region_alo (Wd := fun L V w1 => Below w.heap.size w w1) (Pv := fun i v => v = [.string SO, .string S1, .slice (some ⟨b, o, none⟩) n0 c, .pointer (some ⟨b, o + 1, none⟩), .int .i64 (C : Int), .slice (some ⟨b, o, none⟩) n0 c, .pointer (some ⟨b, o, none⟩), .int .i64 (D : Int), .int .i64 (E : Int), .string SA, .string S2, .string S2].getD i undef) (by kernel_rfl) (by kernel_rfl) ?_ ?_ ?_
  · exact fun L V hL => drew_below w
  · refine ⟨?_, ?_, ?_, ?_, ?_, ?_, ?_, ?_, ?_, ?_, ?_, ?_, trivial⟩
    · intro ac w1 L hL hup hcl hW hd hk hold Kx hK
      exact yes (want_n rfl) (wp_mv _ rfl _ (get_keep (hold 11 _ 4 rfl (not_yet hcl 15 (j := 0) (by kernel_rfl) hL) rfl) rfl) (hK _ w1 (fun _ => rfl) (fun _ _ _ _ _ _ => hW)))
    · intro ac w1 L hL hup hcl hW hd hk hold Kx hK
      have e78 : ac.tmps[78]?.getD undef = (.string SO : Value) := slot (hd 0 _ 78 rfl rfl rfl)
      have ngt : ¬ (9223372036854775807 < SO.size + 1) := by omega
      have q1 : (⟨#[58]⟩ : ByteArray).size = 1 := rfl
      refine yes (want_n rfl) ?_
      have hv := hid (hK (.string S1) w1 (fun _ => rfl) (fun _ _ _ _ _ _ => hW))
      clear hK hd hk hold hcl hL hup
      go_simp
      exact kq hv.out (by rw [h1.out])
    · intro ac w1 L hL hup hcl hW hd hk hold Kx hK
      exact yes (want_n rfl) (wp_mv _ rfl _ (get_keep (hk 0 (no_dst (by kernel_rfl))) rfl) (hK _ w1 (fun _ => rfl) (fun _ _ _ _ _ _ => hW)))
    · intro ac w1 L hL hup hcl hW hd hk hold Kx hK
      have e80 : ac.tmps[80]?.getD undef = (.slice (some ⟨b, o, none⟩) n0 c : Value) := slot (hd 2 _ 80 rfl rfl rfl)
      have i1 : (1 : Int) < (n0 : Int) := by omega
      have i0 : (0 : Int) < (n0 : Int) := by omega
      have i0n : 0 < n0 := by omega
      have i1n : 1 < n0 := by omega
      refine yes (want_n rfl) ?_
      have hv := hid (hK (.pointer (some ⟨b, o + 1, none⟩)) w1 (fun _ => rfl) (fun _ _ _ _ _ _ => hW))
      clear hK hd hk hold hcl hL hup
      go_simp
      exact kq hv.out rfl
    · intro ac w1 L hL hup hcl hW hd hk hold Kx hK
      have e81 : ac.tmps[81]?.getD undef = (.pointer (some ⟨b, o + 1, none⟩) : Value) := slot (hd 3 _ 81 rfl rfl rfl)
      have x0 := stay hW hC.out
      refine yes (want_n rfl) ?_
      have hv := hid (hK (.int .i64 (C : Int)) w1 (fun _ => rfl) (fun _ _ _ _ _ _ => hW))
      clear hK hd hk hold hcl hL hup
      go_simp
      exact kq hv.out rfl
    · intro ac w1 L hL hup hcl hW hd hk hold Kx hK
      exact yes (want_n rfl) (wp_mv _ rfl _ (get_keep (hk 0 (no_dst (by kernel_rfl))) rfl) (hK _ w1 (fun _ => rfl) (fun _ _ _ _ _ _ => hW)))
    · intro ac w1 L hL hup hcl hW hd hk hold Kx hK
      have e83 : ac.tmps[83]?.getD undef = (.slice (some ⟨b, o, none⟩) n0 c : Value) := slot (hd 5 _ 83 rfl rfl rfl)
      have i1 : (1 : Int) < (n0 : Int) := by omega
      have i0 : (0 : Int) < (n0 : Int) := by omega
      have i0n : 0 < n0 := by omega
      have i1n : 1 < n0 := by omega
      refine yes (want_n rfl) ?_
      have hv := hid (hK (.pointer (some ⟨b, o, none⟩)) w1 (fun _ => rfl) (fun _ _ _ _ _ _ => hW))
      clear hK hd hk hold hcl hL hup
      go_simp
      exact kq hv.out rfl
    · intro ac w1 L hL hup hcl hW hd hk hold Kx hK
      have e84 : ac.tmps[84]?.getD undef = (.pointer (some ⟨b, o, none⟩) : Value) := slot (hd 6 _ 84 rfl rfl rfl)
      have x0 := stay hW hD.out
      refine yes (want_n rfl) ?_
      have hv := hid (hK (.int .i64 (D : Int)) w1 (fun _ => rfl) (fun _ _ _ _ _ _ => hW))
      clear hK hd hk hold hcl hL hup
      go_simp
      exact kq hv.out rfl
    · intro ac w1 L hL hup hcl hW hd hk hold Kx hK
      have e82 : ac.tmps[82]?.getD undef = (.int .i64 (C : Int) : Value) := slot (hd 4 _ 82 rfl rfl rfl)
      have e85 : ac.tmps[85]?.getD undef = (.int .i64 (D : Int) : Value) := slot (hd 7 _ 85 rfl rfl rfl)
      refine yes (want_n rfl) ?_
      have hv := hid (hK (.int .i64 (E : Int)) w1 (fun _ => rfl) (fun _ _ _ _ _ _ => hW))
      clear hK hd hk hold hcl hL hup
      go_simp
      exact kq hv.out (by rw [hE.out])
    · intro ac w1 L hL hup hcl hW hd hk hold Kx hK
      exact yes (want_n rfl) (wp_callv 28 _ _ rfl _ Tryz.func28 rfl rfl _ (args1 (hd 8 _ 86 rfl rfl rfl)) (kA.out w1) (by rintro e w2 ⟨rfl, hb⟩; exact ⟨_, rfl, hK _ w2 (fun _ => rfl) (fun _ _ _ _ _ _ => bnext hW hb)⟩))
    · intro ac w1 L hL hup hcl hW hd hk hold Kx hK
      have e79 : ac.tmps[79]?.getD undef = (.string S1 : Value) := slot (hd 1 _ 79 rfl rfl rfl)
      have e87 : ac.tmps[87]?.getD undef = (.string SA : Value) := slot (hd 9 _ 87 rfl rfl rfl)
      have ngt : ¬ (9223372036854775807 < S1.size + SA.size) := by omega
      refine yes (want_n rfl) ?_
      have hv := hid (hK (.string S2) w1 (fun _ => rfl) (fun _ _ _ _ _ _ => hW))
      clear hK hd hk hold hcl hL hup
      go_simp
      exact kq hv.out (by rw [h2.out])
    · intro ac w1 L hL hup hcl hW hd hk hold Kx hK
      exact yes (want_n rfl) (wp_as _ rfl _ (hd 10 _ 88 rfl rfl rfl) (hK _ w1 (fun _ => rfl) (fun _ _ _ _ _ _ => hW)))
  · intro ac w1 hdf hsz hkp hval hRw
    obtain ⟨_, _, hRw⟩ := hRw
    obtain ⟨ff, hf⟩ : ∃ ff, ff = fun d => ac.tmps.getD d undef := ⟨_, rfl⟩
    have h4 : ff 4 = .string S2 := by rw [hf]; exact hval 11 _ 4 rfl rfl
    have hfa := act_filled hdf hsz hkp
    rw [← hf] at hfa
    rw [hfa]
    clear hdf hsz hkp hval hfa hf
    clear ac
    simp only [fillAll, List.set_cons_zero, List.set_cons_succ, h4]
    exact hQ.out _ _ _ _ _ _ _ _ _ _ _ w1 hRw
end Go.Proofs.YtomdghodbkhkaaaGreatDoor

namespace Go.Proofs.YtomdghodbkhkaaaGreatDoor
open Go.RowKit
set_option linter.unusedVariables false
set_option linter.unusedSimpArgs false

/-- While the list is told: what is left, what has been told. -/
structure PS (w wr : World) (a : Option Addr) (c : Nat) (N R : List Nat) (O : List UInt8) : Prop where
  at_ : IAt wr a (cs R)
  eq : comb O R = prT N
  rise : Rise R
  le : ∀ x ∈ R, x ≤ 9999
  cap : R.length ≤ c
  small : O.length + 15 * R.length ≤ 480
  bel : Below w.heap.size w wr
theorem PS.below {w wr w' : World} {a : Option Addr} {c : Nat} {N R : List Nat} {O : List UInt8} (h : PS w wr a c N R O) (hb : Below wr.heap.size wr w') : PS w w' a c N R O := ⟨h.at_.below hb, h.eq, h.rise, h.le, h.cap, h.small, bnext h.bel hb⟩
theorem iat_drop {w : World} {b o : Nat} {R : List Nat} (h : IAt w (some ⟨b, o, none⟩) (cs R)) (n : Nat) : IAt w (some ⟨b, o + n, none⟩) (cs (R.drop n)) := by
  intro hne
  refine ⟨b, o + n, rfl, fun i hi => ?_⟩
  have hl : i < (cs (R.drop n)).length := by rw [flat_len ic 1 ic_len] at hi; omega
  rw [cs_len, List.length_drop] at hl
  have h1 := IAt.one h (i := n + i) (by rw [cs_len]; omega)
  rw [show o + n + i = o + (n + i) by omega, h1]
  have h2 := flat_get ic 1 ic_len (cs (R.drop n)) i 0 (by rw [cs_len, List.length_drop]; omega) (by omega)
  rw [Nat.mul_one, Nat.add_zero, List.getElem?_eq_getElem hi] at h2
  have h3 : itAt (cs R) (n + i) = (cs (R.drop n))[i]'(by rw [cs_len, List.length_drop]; omega) := by
    rw [← itAt_eq (by rw [cs_len]; omega)]
    unfold cs
    simp
  rw [h3]
  simp only [ic, List.getElem?_cons_zero] at h2
  exact (Option.some.inj h2).symm ▸ rfl
theorem runs_one {R : List Nat} (h : R ≠ []) (h2 : evn R ≤ 2) : runsL R = (R.getD 0 0, R.getD 0 0, 1) :: runsL (R.drop 1) := by
  cases R with
  | nil => exact absurd rfl h
  | cons a t => rw [runs_small h2]; simp
theorem sep_len (O : List UInt8) : (if O = [] then O else O ++ [44]).length ≤ O.length + 1 := by split <;> simp
theorem PS.one {w wr w' : World} {b o c : Nat} {N R : List Nat} {O : List UInt8} (h : PS w wr (some ⟨b, o, none⟩) c N R O) (hR : R ≠ []) (hev : evn R ≤ 2) (hb : Below wr.heap.size wr w') :
    PS w w' (some ⟨b, o + 1, none⟩) (c - 1) N (R.drop 1) ((if O = [] then O else O ++ [44]) ++ dig (R.getD 0 0)) := by
  have hrun := runs_one hR hev
  have hcs := comb_step (O := O) hR hrun
  rw [textR_one] at hcs
  have hl := List.length_pos_iff.2 hR
  have hc := h.cap
  have hs := h.small
  have hso := sep_len O
  have h9 : R.getD 0 0 ≤ 9999 := by
    rw [List.getD_eq_getElem?_getD, List.getElem?_eq_getElem hl]; exact h.le _ (List.getElem_mem hl)
  have hd := dig_len h9
  exact ⟨IAt.below (iat_drop h.at_ 1) hb, hcs.trans h.eq, h.rise.sublist (List.drop_sublist _ _), fun x hx => h.le x (List.mem_of_mem_drop hx), by rw [List.length_drop]; omega, by rw [List.length_append, List.length_drop]; omega, bnext h.bel hb⟩
theorem PS.more {w wr w' : World} {b o c q : Nat} {N R : List Nat} {O : List UInt8} (h : PS w wr (some ⟨b, o, none⟩) c N R O) (hq : evn R = q) (h2 : 2 < q) (hb : Below wr.heap.size wr w') :
    PS w w' (some ⟨b, o + q, none⟩) (c - q) N (R.drop q) ((if O = [] then O else O ++ [44]) ++ textR (R.getD 0 0, R.getD (q - 1) 0, R.getD 1 0 - R.getD 0 0)) := by
  have hle := evn_le R
  have hR : R ≠ [] := by
    intro e
    rw [e] at hq
    simp [evn] at hq
    omega
  have hrun := runs_big hq h2
  have hcs := comb_step (O := O) hR hrun
  have hc := h.cap
  have hs := h.small
  have hso := sep_len O
  have h9 : ∀ i, R.getD i 0 ≤ 9999 := fun i => by
    rw [List.getD_eq_getElem?_getD]
    rcases Nat.lt_or_ge i R.length with h1 | h1
    · rw [List.getElem?_eq_getElem h1]; exact h.le _ (List.getElem_mem h1)
    · rw [List.getElem?_eq_none h1]; simp
  have hd0 := dig_len (h9 0)
  have hd1 := dig_len (h9 (q - 1))
  have hd2 := dig_len (n := R.getD 1 0 - R.getD 0 0) (by have := h9 1; omega)
  have htl : (textR (R.getD 0 0, R.getD (q - 1) 0, R.getD 1 0 - R.getD 0 0)).length ≤ 14 := by
    rw [textR_more h.rise h2 (by omega)]
    generalize dig (R.getD 0 0) = X0 at *
    generalize dig (R.getD (q - 1) 0) = X1 at *
    generalize dig (R.getD 1 0 - R.getD 0 0) = X2 at *
    split <;> (simp only [List.length_append, List.length_cons, List.length_nil]; omega)
  exact ⟨IAt.below (iat_drop h.at_ q) hb, hcs.trans h.eq, h.rise.sublist (List.drop_sublist _ _), fun x hx => h.le x (List.mem_of_mem_drop hx), by rw [List.length_drop]; omega, by rw [List.length_append, List.length_drop]; omega, bnext h.bel hb⟩
theorem PS.iff {w w' : World} {b o c q : Nat} {N R : List Nat} {O : List UInt8} (h : PS w w' (some ⟨b, o + q, none⟩) (c - q) N R O) : PS w w' (if c = q then some ⟨b, o, none⟩ else some ⟨b, o + q, none⟩) (c - q) N R O := by
  split
  · rename_i hc
    have h0 : R = [] := List.eq_nil_of_length_eq_zero (by have := h.cap; omega)
    exact ⟨by rw [h0]; exact CAt.nil _ _, h.eq, h.rise, h.le, h.cap, h.small, h.bel⟩
  · exact h
theorem dig4 {n : Nat} (h : n ≤ 9999) (w : World) : Calls Tryz.prog 28 #[.int .i64 (n : Int)] w fun e w' => e = .returned (.string ⟨(dig n).toArray⟩) ∧ Below w.heap.size w w' := digits_any n h w
theorem mem_at {R : List Nat} (h : ∀ x ∈ R, x ≤ 9999) (i : Nat) : R.getD i 0 ≤ 9999 := by
  rw [List.getD_eq_getElem?_getD]
  rcases Nat.lt_or_ge i R.length with h1 | h1
  · rw [List.getElem?_eq_getElem h1]; exact h _ (List.getElem_mem h1)
  · rw [List.getElem?_eq_none h1]; simp

set_option maxRecDepth 100000 in
set_option maxHeartbeats 4000000 in
theorem rprint_any (a : Option Addr) (k c : Nat) (L : List Int) (w : World) (hn : L.length = k) (hl : k ≤ 4611686018427387904) (hkc : k ≤ c) (hcm : c ≤ 9223372036854775807) (hat : IAt w a L) :
    Calls Tryz.prog 9 #[.slice a k c] w fun e w' => PrTold L e ∧ Below w.heap.size w w' := by
  have kl := rlist_any a k c L w hn hl hat
  by_cases hL : ListP L
  · rw [listB_yes hL] at kl
    obtain ⟨N, rfl, hN⟩ := list_cs hL
    rw [cs_len] at hn
    have hst : PS w w a c N N [] := ⟨hat, comb_start N, hN.2.2.2, hN.2.2.1, by omega, by have := hN.2.1; simp; omega, Below.refl _ _⟩
    replace hL := hid hL
    replace hn := hid hn
    go_enter Tryz.func9, Tryz.ntmps9
    go_wp2_with fail
    refine kl.mono ?_
    rintro e w1 ⟨rfl, hb1⟩
    have hst1 := hid (hst.below hb1)
    clear hst
    go_wp2_with fail
    go_loopw [0, 4] (fun v vo wr => ∃ (R : List Nat) (O : List UInt8) (a' : Option Addr) (c' : Nat), v = .slice a' R.length c' ∧ vo = Str O ∧ c' ≤ 9223372036854775807 ∧ Hid (PS w wr a' c' N R O)) (fun v _ _ => match v with | .slice _ n _ => n | _ => 0)
    case atStart => exact ⟨N, [], a, c, by rw [hn.out], rfl, hcm, hst1⟩
    case round =>
      obtain ⟨R, O, a', c', rfl, rfl, hc', hS⟩ := hrel
      by_cases hR0 : R = []
      · subst hR0
        have hO := hid (hS.out.eq)
        rw [comb_end] at hO
        have hBe := hS.out.bel
        go_wp2_with fail
        go_ret2
        exact ⟨.inr ⟨N, rfl, hN, by rw [hO.out]; rfl⟩, hBe⟩
      · have hpos : 0 < R.length := List.length_pos_iff.2 hR0
        obtain ⟨b, o, e⟩ := hS.out.at_.place (by rw [cs_len]; omega)
        subst e
        have dpos : (0 : Int) < (R.length : Int) := by omega
        obtain ⟨w5, hw5⟩ : ∃ w5, w5 = wr := ⟨_, rfl⟩
        subst hw5
        obtain ⟨S, hSs, hSz, _, hSS, hSl⟩ := str_facts O
        rw [hSS]
        have hsm := hS.out.small
        have hR32 : R.length ≤ 32 := by omega
        obtain ⟨O1, hO1⟩ : ∃ O1, O1 = (if O = [] then O else O ++ [44]) := ⟨_, rfl⟩
        obtain ⟨S1, hS1e⟩ : ∃ S1 : ByteArray, S1 = ⟨O1.toArray⟩ := ⟨_, rfl⟩
        have hO1l : Hid (O1.length ≤ 481) := hid (by have := sep_len O; rw [← hO1] at this; omega)
        have hzS : S1.size ≤ 481 := by rw [hS1e]; exact hO1l.out
        have hS1 := hid hS1e
        replace hSS := hid hSS
        go_upto_if 13 with fail
        go_cut [4] (fun s4 wx => s4 = .string S1 ∧ wx = w5)
        case first =>
          cases O with
          | nil =>
            have hfin := hid (show Value.string S = .string S1 by rw [hS1e, hO1, if_pos rfl, hSs])
            clear hS1e hSs hSl hSz
            replace hO1 := hid hO1
            go_wp2_with fail
            go_meet
            exact ⟨hfin.out, rfl⟩
          | cons ob ot =>
            have q44 : (⟨#[44]⟩ : ByteArray).size = 1 := rfl
            have hszS : S.size ≤ 480 := by rw [hSz]; omega
            have ngt44 : ¬ (9223372036854775807 < S.size + 1) := by omega
            have hfin := hid (show Value.string (S ++ ⟨#[44]⟩) = .string S1 by rw [hS1e, hO1, if_neg (by simp), hSs]; exact congrArg Value.string (str_add _ [44]))
            clear hS1e hSs hSl hSz
            replace hO1 := hid hO1
            go_wp2_with fail
            first
              | (go_meet; exact ⟨hfin.out, rfl⟩)
              | (· exfalso; omega
                 · go_meet; exact ⟨hfin.out, rfl⟩)
        case rest =>
          obtain ⟨rfl, hwc⟩ := hcut
          subst hwc
          obtain ⟨w5, hw5⟩ : ∃ w5, w5 = wc := ⟨_, rfl⟩
          subst hw5
          replace hO1 := hid hO1
          clear hS1e hSs hSl hSz hsm
          have hD9 := mem_at hS.out.le 0
          obtain ⟨D0, hD0⟩ : ∃ D0, D0 = R.getD 0 0 := ⟨_, rfl⟩
          have x0 := IAt.one (hS.out.at_) (i := 0) (by rw [cs_len]; omega)
          rw [cs_at (by omega), Nat.add_zero] at x0
          rw [← hD0] at x0 hD9
          replace hD0 := hid hD0
          replace hR0 := hid hR0
          go_upto_block 2 with fail
          go_cut [5] (fun s5 wx => ∃ p : Nat, s5 = .int .i64 ((p : Int) + 1) ∧ 1 ≤ p + 1 ∧ p + 1 ≤ R.length ∧ Hid (evn R = p + 1) ∧ Below w5.heap.size w5 wx)
          case first =>
            have hEP0 : Hid (EP R 1) := hid (fun i h1 h2 => by omega)
            go_wp2_with fail
            go_loopw [5] (fun vq wr => ∃ q : Nat, 1 ≤ q ∧ q ≤ R.length ∧ vq = .int .i64 (q : Int) ∧ Hid (EP R q) ∧ Below w5.heap.size w5 wr) (fun vq _ => R.length - (intOf vq).toNat)
            case atStart => exact ⟨1, Nat.le_refl _, by omega, rfl, hEP0, Below.refl _ _⟩
            case round =>
              obtain ⟨q, hq1, hqR, rfl, hEP, hb6⟩ := hrel
              obtain ⟨p, rfl⟩ : ∃ p, q = p + 1 := ⟨q - 1, by omega⟩
              have ek : ((p + 1 : Nat) : Int) = (p : Int) + 1 := by omega
              have dp0 : (1 : Int) ≤ (p : Int) + 1 := by omega
              rw [ek]
              by_cases hql : p + 1 < R.length
              · have dql : decide ((p : Int) + 1 < (R.length : Int)) = true := decide_eq_true (by omega)
                have dqn : (p : Int) + 1 < (R.length : Int) := by omega
                replace dqn := hid dqn
                have dpl : (p : Int) < (R.length : Int) := by omega
                have d1l : (1 : Int) < (R.length : Int) := by omega
                have d0l : (0 : Int) < (R.length : Int) := by omega
                have n1l : 1 < R.length := by omega
                have n0l : 0 < R.length := by omega
                have hat6 := hS.out.at_.below hb6
                have yq := IAt.one hat6 (i := p + 1) (by rw [cs_len]; omega)
                have yp := IAt.one hat6 (i := p) (by rw [cs_len]; omega)
                have y1 := IAt.one hat6 (i := 1) (by rw [cs_len]; omega)
                have y0 := stay hb6 x0
                rw [cs_at (by omega)] at yq yp y1
                have hq9 := mem_at hS.out.le (p + 1)
                have hp9 := mem_at hS.out.le p
                have h19 := mem_at hS.out.le 1
                have hwp : IntKind.i64.wrap (p : Int) = (p : Int) := by simp [IntKind.wrap, IntKind.bits, IntKind.signed]; omega
                have hEPn : R.getD (p + 1) 0 + R.getD 0 0 = R.getD p 0 + R.getD 1 0 → EP R (p + 1 + 1) := fun h i h1 h2 => by
                  rcases Nat.lt_or_ge i (p + 1) with h3 | h3
                  · exact hEP.out i h1 h3
                  · obtain rfl : i = p + 1 := by omega
                    exact h
                have hstop : ¬ (R.getD (p + 1) 0 + R.getD 0 0 = R.getD p 0 + R.getD 1 0) → (p + 1 = R.length ∨ ¬ (R.getD (p + 1) 0 + R.getD 0 0 = R.getD (p + 1 - 1) 0 + R.getD 1 0)) := fun h => .inr h
                obtain ⟨Aq, hAq⟩ : ∃ Aq, Aq = R.getD (p + 1) 0 := ⟨_, rfl⟩
                obtain ⟨Ap, hAp⟩ : ∃ Ap, Ap = R.getD p 0 := ⟨_, rfl⟩
                obtain ⟨A1, hA1⟩ : ∃ A1, A1 = R.getD 1 0 := ⟨_, rfl⟩
                rw [← hAq] at yq hq9
                rw [← hAp] at yp hp9
                rw [← hA1] at y1 h19
                rw [← hAq, ← hAp, ← hA1, ← hD0.out] at hEPn
                replace hstop : ¬ (Aq + D0 = Ap + A1) → _ := fun h => hstop (by rw [← hAq, ← hAp, ← hA1, ← hD0.out]; exact h)
                replace hAq := hid hAq
                replace hAp := hid hAp
                replace hA1 := hid hA1
                have w1 : IntKind.i64.wrap ((Aq : Int) - (Ap : Int)) = (Aq : Int) - (Ap : Int) := by simp [IntKind.wrap, IntKind.bits, IntKind.signed]; omega
                have w2 : IntKind.i64.wrap ((A1 : Int) - (D0 : Int)) = (A1 : Int) - (D0 : Int) := by simp [IntKind.wrap, IntKind.bits, IntKind.signed]; omega
                by_cases hst : Aq + D0 = Ap + A1
                · have dst : ((Aq : Int) - (Ap : Int) == (A1 : Int) - (D0 : Int)) = true := by simp; omega
                  have hE2 := hid (hEPn hst)
                  clear hEPn hstop hq9 hp9 h19
                  replace hst := hid hst
                  go_wp2_with fail
                  go_quiet (fail)
                  go_wp2_with fail
                  go_roundw
                  case rel => exact ⟨p + 1 + 1, by omega, hql, by go_num, hE2, below_drewN hb6 _⟩
                  case measure => simp [intOf]; omega
                · have dst : ((Aq : Int) - (Ap : Int) == (A1 : Int) - (D0 : Int)) = false := by simp; omega
                  have hstp := hid (hstop hst)
                  clear hEPn hstop hq9 hp9 h19
                  replace hst := hid hst
                  go_wp2_with fail
                  go_quiet (fail)
                  go_wp2_with fail
                  go_meet
                  exact ⟨p, rfl, hq1, hqR, hid (evn_is hS.out.rise hq1 hqR hEP.out hstp.out), below_drewN hb6 _⟩
              · have dql : decide ((p : Int) + 1 < (R.length : Int)) = false := decide_eq_false (by omega)
                have hqe : p + 1 = R.length := by omega
                replace hql := hid hql
                have hstp : Hid (p + 1 = R.length ∨ ¬ (R.getD (p + 1) 0 + R.getD 0 0 = R.getD (p + 1 - 1) 0 + R.getD 1 0)) := hid (.inl hqe)
                replace hqe := hid hqe
                go_wp2_with fail
                go_quiet (fail)
                go_wp2_with fail
                go_meet
                exact ⟨p, rfl, hq1, hqR, hid (evn_is hS.out.rise hq1 hqR hEP.out hstp.out), below_drewN hb6 _⟩
          case rest =>
            obtain ⟨p, rfl, hq1, hqR, hevh, hb6⟩ := hcut
            -- q go on evenly
            have hev := hevh.out
            by_cases h2 : p + 1 ≤ 2
            · have d2 : (p : Int) + 1 ≤ 2 := by omega
              have kA := fun w => dig4 hD9 w
              obtain ⟨SA, hSA⟩ : ∃ SA : ByteArray, SA = ⟨(dig D0).toArray⟩ := ⟨_, rfl⟩
              obtain ⟨S2, hS2⟩ : ∃ S2 : ByteArray, S2 = S1 ++ SA := ⟨_, rfl⟩
              have hS2s : Hid (Value.string S2 = Str (O1 ++ dig D0)) := hid (by rw [hS2, hSA, hS1.out, str_add]; rfl)
              rw [← hSA] at kA
              have zA : SA.size ≤ 4 := by rw [hSA]; exact dig_len hD9
              have ngt : ¬ (9223372036854775807 < S1.size + SA.size) := by omega
              have hev2 : evn R ≤ 2 := by rw [hev]; exact h2
              have hS2r := hS2.symm
              have c1 : (1 : Int) ≤ (R.length : Int) := by omega
              have c2 : 1 ≤ R.length := by omega
              have c3 : R.length ≤ c' := hS.out.cap
              have c4 : 1 ≤ c' := by omega
              replace hev := hid hev
              replace hev2 := hid hev2
              replace hSA := hid hSA
              clear hS2
              have x0r := stay hb6 x0
              go_wp2_with fail
              refine (kA _).mono ?_
              rintro e w7 ⟨rfl, hb7⟩
              have hP7 := hid (PS.one hS.out hR0.out hev2.out (bnext hb6 hb7))
              rw [← hD0.out, ← hO1.out] at hP7
              go_wp2_with fail
              go_roundw
              case rel => exact ⟨R.drop 1, O1 ++ dig D0, (if c' = 1 then some ⟨b, o, none⟩ else some ⟨b, o + 1, none⟩), c' - 1, by rw [List.length_drop], hS2s.out, by omega, hid (PS.iff hP7.out)⟩
              case measure => simp; omega
            · have d2 : ¬ (p : Int) + 1 ≤ 2 := by omega
              have xB := IAt.one (hS.out.at_.below hb6) (i := p) (by rw [cs_len]; omega)
              rw [cs_at (by omega)] at xB
              have xC := IAt.one (hS.out.at_.below hb6) (i := 1) (by rw [cs_len]; omega)
              rw [cs_at (by omega)] at xC
              have x0' := stay hb6 x0
              have hCD : D0 < R.getD 1 0 := by rw [hD0.out]; exact rise_lt hS.out.rise (by omega) (by omega)
              have hB9 := mem_at hS.out.le p
              have hC9 := mem_at hS.out.le 1
              obtain ⟨B, hB⟩ : ∃ B, B = R.getD p 0 := ⟨_, rfl⟩
              obtain ⟨C, hC⟩ : ∃ C, C = R.getD 1 0 := ⟨_, rfl⟩
              rw [← hB] at xB hB9
              rw [← hC] at xC hC9 hCD
              obtain ⟨SA, hSA⟩ : ∃ SA : ByteArray, SA = ⟨(dig D0).toArray⟩ := ⟨_, rfl⟩
              obtain ⟨SB, hSB⟩ : ∃ SB : ByteArray, SB = ⟨(dig B).toArray⟩ := ⟨_, rfl⟩
              obtain ⟨T1, hT1⟩ : ∃ T1 : ByteArray, T1 = S1 ++ SA := ⟨_, rfl⟩
              obtain ⟨T2, hT2⟩ : ∃ T2 : ByteArray, T2 = T1 ++ ⟨#[45]⟩ := ⟨_, rfl⟩
              obtain ⟨T3, hT3⟩ : ∃ T3 : ByteArray, T3 = T2 ++ SB := ⟨_, rfl⟩
              have e1 : T1 = ⟨(O1 ++ dig D0).toArray⟩ := by rw [hT1, hS1.out, hSA, str_add]
              have e2 : T2 = ⟨(O1 ++ dig D0 ++ [45]).toArray⟩ := by rw [hT2, e1]; exact str_add _ [45]
              have e3 : T3 = ⟨(O1 ++ dig D0 ++ [45] ++ dig B).toArray⟩ := by rw [hT3, e2, hSB, str_add]
              have zA : SA.size ≤ 4 := by rw [hSA]; exact dig_len hD9
              have zB : SB.size ≤ 4 := by rw [hSB]; exact dig_len hB9
              have z1 : T1.size ≤ 600 := by rw [e1]; show (O1 ++ dig D0).length ≤ 600; rw [List.length_append]; have := dig_len hD9; have := hO1l.out; omega
              have z2 : T2.size ≤ 600 := by rw [e2]; show (O1 ++ dig D0 ++ [45]).length ≤ 600; rw [List.length_append, List.length_append]; have := dig_len hD9; have := hO1l.out; simp; omega
              have z3 : T3.size ≤ 700 := by rw [e3]; show (O1 ++ dig D0 ++ [45] ++ dig B).length ≤ 700; rw [List.length_append, List.length_append, List.length_append]; have := dig_len hD9; have := dig_len hB9; have := hO1l.out; simp; omega
              have zS : S1.size ≤ 1000 := by omega
              have kA := hid (fun w => by have := dig4 hD9 w; rw [← hSA] at this; exact this)
              have kB := hid (fun w => by have := dig4 hB9 w; rw [← hSB] at this; exact this)
              have hT1r := hid hT1.symm
              have hT2r := hid hT2.symm
              have hT3r := hid hT3.symm
              replace e3 := hid e3
              replace hev := hid hev
              replace hSA := hid hSA
              replace hSB := hid hSB
              replace hB := hid hB
              replace hC := hid hC
              clear hT1 hT2 hT3 e1 e2
              have hpR : p < R.length := by omega
              have hp100 : p ≤ 100 := by have := hS.out.small; omega
              replace xB := hid xB
              have hxA := hid x0'
              go_upto_region 13 with fail
              refine Code.wp_mono nrm_of ?_
              refine pr_r13 hpR hp100 hxA xB kA kB zS (by omega) (by omega) (by omega) (by omega) hT1r hT2r hT3r (hid ?_)
              intro d56 d57 d58 d59 d60 d61 d62 d63 d64 d65 d66 d67 d68 d69 w7 hb7
              have xC7 := stay hb7 xC
              have x07 := stay hb7 x0'
              have hBW7 := bnext hb6 hb7
              have hDr7 : ∀ n, Below w7.heap.size w7 (w7.drewN n) := fun n => below_drewN (Below.refl _ _) n
              have hwr : IntKind.i64.wrap ((C : Int) - (D0 : Int)) = ((C - D0 : Nat) : Int) := by
                rw [show ((C - D0 : Nat) : Int) = (C : Int) - (D0 : Int) by omega]
                simp [IntKind.wrap, IntKind.bits, IntKind.signed]; omega
              obtain ⟨E, hE⟩ : ∃ E, E = C - D0 := ⟨_, rfl⟩
              rw [← hE] at hwr
              have hE9 : E ≤ 9999 := by omega
              have c1 : (1 : Int) < (R.length : Int) := by omega
              have c0 : (0 : Int) < (R.length : Int) := by omega
              have c3 : R.length ≤ c' := hS.out.cap
              have c5 : p + 1 ≤ R.length := by omega
              have c6 : p + 1 ≤ c' := by omega
              have c7 : (p : Int) + 1 ≤ (R.length : Int) := by omega
              have c8 : (p : Int) + 1 ≤ (c' : Int) := by omega
              have htx := textR_more hS.out.rise (n := p + 1) (by omega) (by omega)
              rw [Nat.add_sub_cancel, ← hB.out, ← hC.out, ← hD0.out, ← hE] at htx
              replace hE := hid hE
              by_cases hst : 1 < E
              · have dE : (1 : Int) < (E : Int) := by omega
                rw [if_pos hst] at htx
                obtain ⟨SE, hSE⟩ : ∃ SE : ByteArray, SE = ⟨(dig E).toArray⟩ := ⟨_, rfl⟩
                obtain ⟨T4, hT4⟩ : ∃ T4 : ByteArray, T4 = T3 ++ ⟨#[58]⟩ := ⟨_, rfl⟩
                obtain ⟨T5, hT5⟩ : ∃ T5 : ByteArray, T5 = T4 ++ SE := ⟨_, rfl⟩
                have e4 : T4 = ⟨(O1 ++ dig D0 ++ [45] ++ dig B ++ [58]).toArray⟩ := by rw [hT4, e3.out]; exact str_add _ [58]
                have e5 : T5 = ⟨(O1 ++ dig D0 ++ [45] ++ dig B ++ [58] ++ dig E).toArray⟩ := by rw [hT5, e4, hSE, str_add]
                have z4 : T4.size ≤ 800 := by
                  have : T4.size = T3.size + 1 := by rw [e4, e3.out]; show (_ ++ [58]).length = _; rw [List.length_append]; rfl
                  omega
                have zE : SE.size ≤ 4 := by rw [hSE]; exact dig_len hE9
                have kE := hid (fun w => by have := dig4 hE9 w; rw [← hSE] at this; exact this)
                have hL5 : O1 ++ dig D0 ++ [45] ++ dig B ++ [58] ++ dig E = O1 ++ textR (D0, B, E) := by rw [htx]; simp
                have hT5s : Hid (Value.string T5 = Str (O1 ++ textR (D0, B, E))) := hid (by rw [e5, hL5]; rfl)
                clear hL5
                have hT4r := hid hT4.symm
                have hT5r := hid hT5.symm
                replace hSE := hid hSE
                replace htx := hid htx
                clear hT4 hT5 e4 e5
                go_wp2_with fail
                go_quiet (fail)
                have xC8 := hid xC7
                have x08 := hid x07
                replace hwr := hid hwr
                go_upto_region 15 with fail
                refine Code.wp_mono nrm_of ?_
                refine pr_r15 (C := C) (D := D0) (E := E) (by omega) (hid (stay (hDr7 _) xC8.out)) (hid (stay (hDr7 _) x08.out)) hwr kE (by omega) (by omega) (by omega) hT4r hT5r (hid ?_)
                intro d78 d79 d80 d81 d82 d83 d84 d85 d86 d87 d88 w8 hb8
                have hB8 := bnext hBW7 (bnext (hDr7 _) hb8)
                have hP8 := hid (PS.more hS.out (hev.out) (by omega) hB8)
                rw [Nat.add_sub_cancel, ← hB.out, ← hC.out, ← hD0.out, ← hE.out, ← hO1.out] at hP8
                go_wp2_with fail
                go_roundw
                case rel => exact ⟨R.drop (p + 1), O1 ++ textR (D0, B, E), (if c' = p + 1 then some ⟨b, o, none⟩ else some ⟨b, o + (p + 1), none⟩), c' - (p + 1), by rw [List.length_drop], hT5s.out, by omega, hid (PS.iff hP8.out)⟩
                case measure => simp; omega
              · have dE : ¬ (1 : Int) < (E : Int) := by omega
                rw [if_neg hst, List.append_nil] at htx
                have hL3 : O1 ++ dig D0 ++ [45] ++ dig B = O1 ++ textR (D0, B, E) := by rw [htx]; simp
                have hT3s : Hid (Value.string T3 = Str (O1 ++ textR (D0, B, E))) := hid (by rw [e3.out, hL3]; rfl)
                clear hL3
                replace htx := hid htx
                replace hst := hid hst
                go_wp2_with fail
                go_quiet (fail)
                go_wp2_with fail
                have hP9 := fun n => PS.more hS.out (hev.out) (by omega) (below_drewN hBW7 n)
                simp only [Nat.add_sub_cancel] at hP9
                rw [← hB.out, ← hC.out, ← hD0.out, ← hE.out, ← hO1.out] at hP9
                replace hP9 := hid hP9
                go_roundw
                case rel => exact ⟨R.drop (p + 1), O1 ++ textR (D0, B, E), (if c' = p + 1 then some ⟨b, o, none⟩ else some ⟨b, o + (p + 1), none⟩), c' - (p + 1), by rw [List.length_drop], hT3s.out, by omega, hid (PS.iff (hP9.out _))⟩
                case measure => simp; omega
  · rw [listB_no hL] at kl
    replace hL := hid hL
    go_enter Tryz.func9, Tryz.ntmps9
    go_wp2_with fail
    refine kl.mono ?_
    rintro e w1 ⟨rfl, hb1⟩
    go_wp2_with fail
    go_ret2
    exact ⟨.inl ⟨hL.out, rfl⟩, hb1⟩

end Go.Proofs.YtomdghodbkhkaaaGreatDoor
