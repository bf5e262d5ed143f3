/- A region that draws its order: its first L operations in whatever order, the rest behind all of them. -/
import Derived.Test.YtflapjehkgefdaaGreatDraw
namespace Go.Proofs.YtflapjehkgefdaaGreat.Fr
open Go.RowKit

section
variable {P : Program} {ops : Array Oper} {Q : Exit → Act → World → Prop} {Rel : World → World → Prop} {Pr : Nat → Value → World → Prop}

def edgeB (o : Oper) (j : Nat) : Bool := o.after.toList.any fun e => e.on == j && Region.binds .any e

/-- The region's text: the first L write each a slot of their own; each of them is wanted, at last, by number L; what is behind L wants L or what is behind it. -/
def frontB (ops : Array Oper) (n L : Nat) : Bool :=
  decide (L < ops.size) && decide (((ops.toList.take L).filterMap (·.dst)).Nodup) && (ops.toList.take L).all (fun o => match o.dst with | some d => decide (d < n) | none => false) &&
  ((List.range ops.size).all fun i => match ops[i]? with | some o => o.after.toList.all fun e => !Region.binds .any e || decide (e.on < i) | none => true) &&
  ((List.range L).all fun j => (List.range (L + 1)).any fun i => decide (j < i) && match ops[i]? with | some o => edgeB o j | none => false) &&
  ((List.range ops.size).all fun i => decide (i ≤ L) || match ops[i]? with | some o => o.after.toList.any fun e => Region.binds .any e && decide (L ≤ e.on) | none => false)

def frontOf (n L : Nat) : Array Bool := ((List.range n).map fun i => decide (i < L)).toArray

theorem frontOf_get {n L i : Nat} (h : i < (frontOf n L).size) : (frontOf n L)[i] = decide (i < L) := by simp [frontOf]

theorem wp_region_front (L : Nat) {id : Nat} {a0 : Act} {w0 : World} (hm : P.follows .mixedOrders = true) (hB : frontB ops a0.tmps.size L = true)
    (h0 : Rel w0 w0.drew) (htr : ∀ a b c, Rel a b → Rel b c → Rel a c) (hmono : ∀ i v w w', Pr i v w → Rel w w' → Pr i v w')
    (hs : DrawSteps P (ops.toList.take L).toArray Q Rel Pr a0 w0 0 (ops.toList.take L)) (hgd : ((ops.toList.take L).all fun o => o.guard.isNone) = true)
    (hfin : ∀ (a : Act) (w : World), a.defers = a0.defers → a.tmps.size = a0.tmps.size → (∀ s, (∀ (i : Nat) (o : Oper), (ops.toList.take L).toArray[i]? = some o → o.dst ≠ some s) → a.tmps[s]? = a0.tmps[s]?) → (∀ (i : Nat) (o : Oper) (d : Tmp), (ops.toList.take L).toArray[i]? = some o → o.dst = some d → Pr i (a.tmps.getD d undef) w) → Rel w0 w → wpAny P .any ops Q (ops.size - L) (frontOf ops.size L) a w) :
    (Code.region id ops true).wp P Q a0 w0 := by
  unfold frontB at hB
  simp only [Bool.and_eq_true, decide_eq_true_eq] at hB
  obtain ⟨⟨⟨⟨⟨hL, hnd⟩, hin⟩, hlow⟩, hup⟩, hbeh⟩ := hB
  have hfront : ∀ (i : Nat) (o : Oper), i < L → ops[i]? = some o → (ops.toList.take L)[i]? = some o := fun i o hi ho => by
    rw [List.getElem?_take, if_pos hi]; simpa using ho
  have hfr2 : ∀ (i : Nat) (o : Oper), (ops.toList.take L).toArray[i]? = some o → i < L ∧ ops[i]? = some o := fun i o ho => by
    simp only [List.getElem?_toArray, List.getElem?_take] at ho
    split at ho
    · exact ⟨by assumption, by simpa using ho⟩
    · cases ho
  have hstep : ∀ (i : Nat) (o : Oper), i < L → ops[i]? = some o → DrawStep P (ops.toList.take L).toArray Q Rel Pr a0 w0 i o := fun i o hi ho => by
    have := DrawSteps.get (ops.toList.take L) 0 hs i o (hfront i o hi ho)
    rwa [Nat.zero_add] at this
  have hgn : ∀ (i : Nat) (o : Oper), i < L → ops[i]? = some o → o.guard = none := fun i o hi ho => by
    have := List.all_eq_true.1 hgd o (List.mem_of_getElem? (hfront i o hi ho))
    simpa using this
  have hdst : ∀ (i : Nat) (o : Oper), i < L → ops[i]? = some o → ∃ d, o.dst = some d ∧ d < a0.tmps.size := fun i o hi ho => by
    have := List.all_eq_true.1 hin o (List.mem_of_getElem? (hfront i o hi ho))
    cases hd : o.dst with
    | none => rw [hd] at this; simp at this
    | some d => rw [hd] at this; exact ⟨d, rfl, by simpa using this⟩
  have hback : ∀ (i : Nat) (o : Oper) (e : Edge), ops[i]? = some o → e ∈ o.after.toList → Region.binds .any e = true → e.on < i := fun i o e hi he hb => by
    have hlt : i < ops.size := (Array.getElem?_eq_some_iff.1 hi).1
    have h1 := List.all_eq_true.1 hlow i (List.mem_range.2 hlt)
    rw [hi] at h1
    have h2 := List.all_eq_true.1 h1 e he
    rw [hb] at h2
    simpa using h2
  refine wp_region_any hm ?_
  have key : ∀ (k : Nat) (listed : Array Bool) (a : Act) (w : World), listed.size = ops.size → listed.toList.count true + k = L → (∀ i, L ≤ i → listed.getD i false = false) →
      (∀ (i : Nat) (o : Oper) (e : Edge), ops[i]? = some o → listed.getD i false = true → e ∈ o.after.toList → Region.binds .any e = true → listed.getD e.on false = true) →
      Drawn (ops.toList.take L).toArray Rel Pr a0 w0 listed a w → wpAny P .any ops Q (ops.size - L + k) listed a w := by
    intro k
    induction k with
    | zero =>
      intro listed a w hsz hc hout hdown hD
      -- all of the first L
      have hall : ∀ i, i < L → listed.getD i false = true := by
        have hlen : (listed.toList.take L).count true = listed.toList.count true := by
          have h1 : listed.toList.count true = (listed.toList.take L).count true + (listed.toList.drop L).count true := by
            rw [← List.count_append, List.take_append_drop]
          have h2 : (listed.toList.drop L).count true = 0 := by
            refine List.count_eq_zero.2 (fun hm => ?_)
            obtain ⟨j, hj, he⟩ := List.getElem_of_mem hm
            have h3 := hout (L + j) (by omega)
            simp only [List.getElem_drop] at he
            have h4 : L + j < listed.size := by simp at hj; omega
            simp [Array.getD_eq_getD_getElem?, h4] at h3
            simp at he
            rw [he] at h3; cases h3
          omega
        have ht := all_true (listed.toList.take L) (by rw [hlen, List.length_take]; simp only [Array.length_toList]; omega)
        intro i hi
        have h5 := ht i (by simp; omega)
        rw [List.getElem?_take, if_pos hi] at h5
        have h6 : i < listed.size := by omega
        simp [Array.getD_eq_getD_getElem?, h6] at h5 ⊢
        exact h5
      have heq : listed = frontOf ops.size L := by
        refine Array.ext (by simp [frontOf, hsz]) (fun i h1 h2 => ?_)
        rw [frontOf_get h2]
        rcases Nat.lt_or_ge i L with h | h
        · have := hall i h
          simp [Array.getD_eq_getD_getElem?, h1] at this
          rw [this, decide_eq_true h]
        · have := hout i h
          simp [Array.getD_eq_getD_getElem?, h1] at this
          rw [this, decide_eq_false (by omega)]
      rw [Nat.add_zero, heq]
      refine hfin a w hD.defers hD.size hD.keep (fun i o d hi hd => ?_) hD.rel
      have hh := hfr2 i o hi
      exact hD.val i o d hi (hall i hh.1) hd
    | succ k ih =>
      intro listed a w hsz hc hout hdown hD
      -- some of the first L is not listed
      have hex : ∃ j, j < L ∧ listed.getD j false = false := by
        refine Classical.byContradiction (fun hno => ?_)
        have hall : ∀ j, j < L → listed.getD j false = true := fun j hj => by
          cases h : listed.getD j false with
          | true => rfl
          | false => exact absurd ⟨j, hj, h⟩ hno
        have h1 : (listed.toList.take L).count true = L := by
          have : listed.toList.take L = List.replicate L true := by
            refine List.ext_getElem (by simp; omega) (fun i h1 h2 => ?_)
            have h3 : i < L := by simpa using h2
            have h4 : i < listed.size := by omega
            have := hall i h3
            simp [Array.getD_eq_getD_getElem?, h4] at this
            simp [this]
          rw [this]; simp
        have h2 : (listed.toList.take L).count true ≤ listed.toList.count true := (List.take_sublist L _).count_le _
        omega
      have hnotL : ∀ i ∈ Region.ready .any ops listed, i < L := fun i hi => by
        refine Classical.byContradiction (fun hge => ?_)
        unfold Region.ready at hi
        obtain ⟨hir, hcond⟩ := List.mem_filter.1 hi
        have hlt := List.mem_range.1 hir
        obtain ⟨o, ho⟩ : ∃ o, ops[i]? = some o := ⟨_, Array.getElem?_eq_getElem hlt⟩
        rw [ho] at hcond
        simp only [Option.map_some, Option.getD_some, Bool.and_eq_true, Bool.not_eq_true'] at hcond
        have hrdy : ∀ e ∈ o.after.toList, Region.binds .any e = true → listed.getD e.on false = true := fun e he hb => by
          obtain ⟨q, hq, rfl⟩ := Array.mem_iff_getElem.1 (Array.mem_toList_iff.1 he)
          have := Array.all_eq_true.1 hcond.2 q hq
          rw [hb] at this
          simpa using this
        by_cases hiL : i = L
        · subst hiL
          have hl : ∀ n j, i ≤ j + n → j < i → listed.getD j false = true := by
            intro n
            induction n with
            | zero => intro j h1 h2; omega
            | succ n ihn =>
              intro j h1 h2
              have h3 := List.all_eq_true.1 hup j (List.mem_range.2 h2)
              obtain ⟨q, hq, hqe⟩ := List.any_eq_true.1 h3
              have hqi := List.mem_range.1 hq
              simp only [Bool.and_eq_true, decide_eq_true_eq] at hqe
              obtain ⟨hjq, hed⟩ := hqe
              obtain ⟨oq, hoq⟩ : ∃ o, ops[q]? = some o := ⟨_, Array.getElem?_eq_getElem (by omega)⟩
              rw [hoq] at hed
              obtain ⟨e, he, hee⟩ := List.any_eq_true.1 hed
              simp only [Bool.and_eq_true, beq_iff_eq] at hee
              rw [← hee.1]
              by_cases hqi2 : q = i
              · subst hqi2
                rw [ho] at hoq
                cases hoq
                exact hrdy e he hee.2
              · exact hdown q oq e hoq (ihn q (by omega) (by omega)) he hee.2
          obtain ⟨j, hj, hjf⟩ := hex
          rw [hl i j (by omega) hj] at hjf
          cases hjf
        · have h3 := List.all_eq_true.1 hbeh i (List.mem_range.2 hlt)
          rw [ho] at h3
          have h4 : ¬ i ≤ L := by omega
          simp only [h4, decide_false, Bool.false_or] at h3
          obtain ⟨e, he, hee⟩ := List.any_eq_true.1 h3
          simp only [Bool.and_eq_true, decide_eq_true_eq] at hee
          have h5 := hrdy e he hee.1
          rw [hout e.on hee.2] at h5
          cases h5
      rw [show ops.size - L + (k + 1) = (ops.size - L + k) + 1 by omega]
      refine ⟨fun hnil => ?_, fun i hi => ?_⟩
      · -- one of them may come up
        obtain ⟨j, hj, hjf⟩ := hex
        exfalso
        have hall : ∀ n i, i < n → i < L → listed.getD i false = true := by
          intro n
          induction n with
          | zero => intro i hi; omega
          | succ n ihn =>
            intro i hi hlt
            rcases Nat.lt_or_ge i n with h1 | h1
            · exact ihn i h1 hlt
            · have hlt2 : i < ops.size := by omega
              have hno := List.filter_eq_nil_iff.1 (show (List.range ops.size).filter _ = [] from hnil) i (List.mem_range.2 hlt2)
              obtain ⟨o, ho⟩ : ∃ o, ops[i]? = some o := ⟨_, Array.getElem?_eq_getElem hlt2⟩
              have hrdy : ((ops[i]?).map (·.after.all fun e => !Region.binds .any e || listed.getD e.on false)).getD false = true := by
                rw [ho]
                simp only [Option.map_some, Option.getD_some]
                refine Array.all_eq_true.2 (fun q hq => ?_)
                cases hb : Region.binds .any o.after[q] with
                | false => simp
                | true =>
                  have hlt3 := hback i o _ ho (Array.mem_toList_iff.2 (Array.getElem_mem hq)) hb
                  have hq2 : listed.getD o.after[q].on false = true := ihn o.after[q].on (by omega) (by omega)
                  rw [hq2]; simp
              rw [hrdy] at hno
              have hin' : i < listed.size := by omega
              simp [Array.getD_eq_getD_getElem?, hin'] at hno ⊢
              exact hno
        rw [hall (j + 1) j (by omega) hj] at hjf
        cases hjf
      · have hiL := hnotL i hi
        unfold Region.ready at hi
        obtain ⟨hir, hcond⟩ := List.mem_filter.1 hi
        have hlt := List.mem_range.1 hir
        obtain ⟨o, ho⟩ : ∃ o, ops[i]? = some o := ⟨_, Array.getElem?_eq_getElem hlt⟩
        rw [ho] at hcond
        simp only [Option.map_some, Option.getD_some, Bool.and_eq_true, Bool.not_eq_true'] at hcond
        obtain ⟨hnot, hrdy0⟩ := hcond
        have hrdy : ∀ e ∈ o.after.toList, Region.binds .any e = true → listed.getD e.on false = true := fun e he hb => by
          obtain ⟨q, hq, rfl⟩ := Array.mem_iff_getElem.1 (Array.mem_toList_iff.1 he)
          have := Array.all_eq_true.1 hrdy0 q hq
          rw [hb] at this
          simpa using this
        have hin' : i < listed.size := by omega
        have hnot' : listed[i]? = some false := by
          simp [Array.getD_eq_getD_getElem?, hin'] at hnot ⊢
          exact hnot
        have hfi : (ops.toList.take L).toArray[i]? = some o := by simpa using hfront i o hiL ho
        refine wpOp_step ho (fun K' hK' => ?_)
        have hwt : Region.wanted o (yielded ops a.tmps) = Region.wanted o (yielded (ops.toList.take L).toArray a.tmps) := by
          unfold Region.wanted
          rw [hgn i o hiL ho]
        rw [hwt]
        refine hstep i o hiL ho a w hD.rel ?_ hD.keep K' (fun v w' hv hr => hK' _ _ ?_)
        · intro j oj d hj hoj hd
          refine hD.val j oj d hoj ?_ hd
          obtain ⟨x, hx, hke⟩ := List.any_eq_true.1 hj
          simp only [Bool.and_eq_true, beq_iff_eq] at hke
          rw [← hke.1]
          exact hrdy x hx hke.2
        · obtain ⟨di, hdi, hdlt⟩ := hdst i o hiL ho
          have hgs : ∀ j, j ≠ i → (listed.setIfInBounds i true).getD j false = listed.getD j false := fun j hj => by
            simp only [Array.getD_eq_getD_getElem?, Array.getElem?_setIfInBounds_ne (Ne.symm hj)]
          have hgi : (listed.setIfInBounds i true).getD i false = true := by simp [Array.getD_eq_getD_getElem?, hin']
          refine ih _ _ _ (by simpa using hsz) ?_ (fun j hj => ?_) (fun j oj e hoj hlj he hb => ?_) ?_
          · have := count_set listed.toList i (by simpa using hnot')
            rw [Array.toList_setIfInBounds, this]
            omega
          · rw [hgs j (by omega)]; exact hout j hj
          · by_cases hji : j = i
            · subst hji
              rw [ho] at hoj
              cases hoj
              have h7 := hback j o e ho he hb
              rw [hgs e.on (by omega)]
              exact hrdy e he hb
            · rw [hgs j hji] at hlj
              have h8 := hdown j oj e hoj hlj he hb
              by_cases hei : e.on = i
              · rw [hei]; exact hgi
              · rw [hgs e.on hei]; exact h8
          · have hput : a.put o.dst v = { a with tmps := a.tmps.setIfInBounds di v } := by rw [hdi]; rfl
            rw [hput]
            refine ⟨hD.defers, by simpa using hD.size, fun s hns => ?_, fun j oj d hj hlj hd => ?_, htr _ _ _ hD.rel hr⟩
            · have hne : di ≠ s := fun e => hns i o hfi (by rw [hdi, e])
              simp only [Array.getElem?_setIfInBounds_ne hne]
              exact hD.keep s hns
            · by_cases hij : i = j
              · subst hij
                rw [hfi] at hj
                cases hj
                rw [hdi] at hd
                cases hd
                have hs2 : di < a.tmps.size := by rw [hD.size]; exact hdlt
                simp [Array.getD_eq_getD_getElem?, hs2]
                exact hv
              · have hne : di ≠ d := fun e => hij (nodup_dst (ops.toList.take L) i j o oj d hnd (by simpa using hfi) (by simpa using hj) (by rw [hdi, e]) hd)
                rw [hgs j (Ne.symm hij)] at hlj
                have := hmono j _ w w' (hD.val j oj d hj hlj hd) hr
                simp only [Array.getD_eq_getD_getElem?, Array.getElem?_setIfInBounds_ne hne] at this ⊢
                exact this
  have := key L (Array.replicate ops.size false) a0 w0.drew (by simp) (by simp [List.count_replicate]) (fun i _ => by
      simp only [Array.getD_eq_getD_getElem?, Array.getElem?_replicate]; split <;> rfl) (fun i o e hi hl => by
      simp [Array.getD_eq_getD_getElem?, (Array.getElem?_eq_some_iff.1 hi).1] at hl) ⟨rfl, rfl, fun _ _ => rfl, fun i o d hi hl _ => by
      have h9 := (hfr2 i o hi).2
      simp [Array.getD_eq_getD_getElem?, (Array.getElem?_eq_some_iff.1 h9).1] at hl, h0⟩
  rw [show ops.size - L + L = ops.size by omega] at this
  exact this
end
end Go.Proofs.YtflapjehkgefdaaGreat.Fr
