/- The queue, plain: sorted by priority, then by id; what follows of it. -/
import Derived.Lib.Join
namespace Go.Proofs.Ytflapjehkgefdaa
set_option linter.unusedVariables false
set_option linter.unusedSimpArgs false

section
variable {α : Type} (pr id : α → Int)
def aheadB (a b : α) : Bool := decide (pr b < pr a) || (decide (pr a = pr b) && decide (id a < id b))
/-- a may stand ahead of b. -/
def leQ (a b : α) : Prop := pr b < pr a ∨ (pr a = pr b ∧ id a ≤ id b)
theorem ahead_iff (a b : α) : aheadB pr id a b = true ↔ pr b < pr a ∨ (pr a = pr b ∧ id a < id b) := by
  unfold aheadB; simp
theorem ahead_no (a b : α) : aheadB pr id a b = false ↔ leQ pr id b a := by
  rw [Bool.eq_false_iff, ne_eq, ahead_iff]
  unfold leQ
  omega
theorem ahead_le {a b : α} (h : aheadB pr id a b = true) : leQ pr id a b := by
  rw [ahead_iff] at h
  unfold leQ
  omega
theorem leQ_trans {a b c : α} (h : leQ pr id a b) (k : leQ pr id b c) : leQ pr id a c := by
  unfold leQ at *; omega
/-- Of unlike ids one is ahead. -/
theorem ahead_one {a b : α} (h : id a ≠ id b) : aheadB pr id a b = !aheadB pr id b a := by
  cases h1 : aheadB pr id b a with
  | true =>
    rw [Bool.not_true, ahead_no]
    exact ahead_le pr id h1
  | false =>
    rw [ahead_no] at h1
    rw [Bool.not_false, ahead_iff]
    unfold leQ at h1
    omega
theorem ahead_trans {a b c : α} (h : aheadB pr id a b = true) (k : aheadB pr id b c = true) : aheadB pr id a c = true := by
  rw [ahead_iff] at *; omega
def SortedQ (l : List α) : Prop := l.Pairwise (leQ pr id)

/-- x put in at the place k. -/
def insAtQ (l : List α) (x : α) (k : Nat) : List α := l.take k ++ x :: l.drop k
theorem insAtQ_len (l : List α) (x : α) (k : Nat) (h : k ≤ l.length) : (insAtQ l x k).length = l.length + 1 := by unfold insAtQ; simp; omega
theorem insAtQ_end (l : List α) (x : α) : insAtQ l x l.length = l ++ [x] := by unfold insAtQ; simp
theorem insAtQ_perm (l : List α) (x : α) (k : Nat) : (insAtQ l x k).Perm (x :: l) := by
  unfold insAtQ
  refine List.perm_middle.trans ?_
  rw [List.take_append_drop]
theorem insAtQ_get (l : List α) (x : α) (k i : Nat) (hk : k ≤ l.length) : (insAtQ l x k)[i]? = if i < k then l[i]? else if i = k then some x else l[i - 1]? := by
  unfold insAtQ
  by_cases h1 : i < k
  · rw [if_pos h1, List.getElem?_append_left (by simp; omega), List.getElem?_take, if_pos h1]
  · rw [if_neg h1, List.getElem?_append_right (by simp; omega)]
    have e : (l.take k).length = k := by simp; omega
    rw [e]
    by_cases h2 : i = k
    · rw [if_pos h2, h2, Nat.sub_self]; rfl
    · rw [if_neg h2, show i - k = (i - 1 - k) + 1 by omega, List.getElem?_cons_succ, List.getElem?_drop]
      congr 1
      omega
theorem insAtQ_swap {l : List α} {x y : α} {k : Nat} (hk : k + 1 ≤ l.length) (hy : l[k]? = some y) : ((insAtQ l x (k + 1)).set (k + 1) y).set k x = insAtQ l x k := by
  apply List.ext_getElem?
  intro i
  have hl := insAtQ_len l x (k + 1) hk
  rw [List.getElem?_set, List.getElem?_set, List.length_set, hl, insAtQ_get l x (k + 1) i hk, insAtQ_get l x k i (by omega)]
  by_cases h1 : k = i
  · subst h1
    rw [if_pos rfl, if_pos (by omega), if_neg (by omega), if_pos rfl]
  · rw [if_neg h1]
    by_cases h2 : k + 1 = i
    · subst h2
      rw [if_pos rfl, if_pos (by omega), if_neg (by omega), if_neg (by omega)]
      simp only [Nat.add_sub_cancel]
      exact hy.symm
    · rw [if_neg h2]
      by_cases h3 : i < k
      · rw [if_pos (by omega), if_pos h3]
      · rw [if_neg (by omega), if_neg (by omega), if_neg h3, if_neg (by omega)]
theorem insAtQ_sorted {l : List α} {x : α} {k : Nat} (hs : SortedQ pr id l) (hk : k ≤ l.length) (h1 : ∀ i y, k ≤ i → l[i]? = some y → aheadB pr id x y = true) (h2 : ∀ y, 0 < k → l[k - 1]? = some y → aheadB pr id x y = false) : SortedQ pr id (insAtQ l x k) := by
  unfold SortedQ insAtQ at *
  have hsplit : (l.take k ++ l.drop k).Pairwise (leQ pr id) := by rw [List.take_append_drop]; exact hs
  rw [List.pairwise_append] at hsplit ⊢
  obtain ⟨p1, p2, p3⟩ := hsplit
  have hd : ∀ b ∈ l.drop k, leQ pr id x b := fun b hb => by
    obtain ⟨i, hi, rfl⟩ := List.getElem_of_mem hb
    rw [List.length_drop] at hi
    refine ahead_le pr id (h1 (k + i) _ (by omega) ?_)
    rw [List.getElem?_eq_getElem (by omega), List.getElem_drop]
  have ht : ∀ a ∈ l.take k, leQ pr id a x := fun a ha => by
    obtain ⟨i, hi, rfl⟩ := List.getElem_of_mem ha
    have hi2 : i < k := by rw [List.length_take] at hi; omega
    have hlast := (ahead_no pr id x l[k - 1]).1 (h2 _ (by omega) (List.getElem?_eq_getElem (by omega)))
    rw [List.getElem_take]
    rcases Nat.lt_or_ge i (k - 1) with h | h
    · exact leQ_trans pr id (List.pairwise_iff_getElem.1 hs i (k - 1) (by omega) (by omega) h) hlast
    · have e : i = k - 1 := by omega
      subst e
      exact hlast
  refine ⟨p1, List.pairwise_cons.2 ⟨hd, p2⟩, fun a ha b hb => ?_⟩
  rcases List.mem_cons.1 hb with rfl | hb
  · exact ht a ha
  · exact p3 a ha b hb

/-- Two sorted rows of the same jobs have the same ids. -/
theorem sorted_keys : ∀ {A B : List α}, SortedQ pr id A → SortedQ pr id B → A.Perm B → A.map (fun a => (pr a, id a)) = B.map (fun a => (pr a, id a))
  | [], B, _, _, h => by rw [List.nil_perm.1 h]
  | x :: t, [], _, _, h => absurd (List.perm_nil.1 h) (by simp)
  | x :: t, y :: u, ha, hb, h => by
    unfold SortedQ at ha hb
    have ha' := List.pairwise_cons.1 ha
    have hb' := List.pairwise_cons.1 hb
    have k1 : leQ pr id x y := by
      rcases List.mem_cons.1 (h.mem_iff.2 (List.mem_cons_self (a := y) (l := u))) with e | e
      · rw [e]; unfold leQ; omega
      · exact ha'.1 y e
    have k2 : leQ pr id y x := by
      rcases List.mem_cons.1 (h.mem_iff.1 (List.mem_cons_self (a := x) (l := t))) with e | e
      · rw [e]; unfold leQ; omega
      · exact hb'.1 x e
    have e1 : pr x = pr y := by unfold leQ at k1 k2; omega
    have e2 : id x = id y := by unfold leQ at k1 k2; omega
    -- y stands in x :: t: put it in front there
    obtain ⟨t', ht'⟩ : ∃ t', (x :: t).Perm (y :: t') ∧ SortedQ pr id t' ∧ (x :: t).map (fun a => (pr a, id a)) = (y :: t').map (fun a => (pr a, id a)) := by
      rcases List.mem_cons.1 (h.mem_iff.2 (List.mem_cons_self (a := y) (l := u))) with e | e
      · exact ⟨t, by rw [e], ha'.2, by rw [e]⟩
      · obtain ⟨p, q, hpq⟩ := List.append_of_mem e
        subst hpq
        -- all of p have the same key as x and y
        have hsame : ∀ z ∈ p, pr z = pr x ∧ id z = id x := fun z hz => by
          have z1 := ha'.1 z (by simp [hz])
          have z2 : leQ pr id z y := by
            have := List.pairwise_append.1 ha'.2
            exact this.2.2 z hz y (by simp)
          unfold leQ at z1 z2
          omega
        have hcomm : ∀ (s : List α) (v : Int × Int), (∀ z ∈ s, (pr z, id z) = v) → v :: s.map (fun a => (pr a, id a)) = s.map (fun a => (pr a, id a)) ++ [v] := by
          intro s v hs
          induction s with
          | nil => rfl
          | cons z r ih =>
            rw [List.map_cons, List.cons_append, ← ih (fun w hw => hs w (by simp [hw])), hs z (by simp)]
        refine ⟨x :: p ++ q, ?_, ?_, ?_⟩
        · refine List.Perm.trans (List.Perm.cons x List.perm_middle) (List.Perm.swap _ _ _)
        · unfold SortedQ
          refine List.Pairwise.sublist ?_ ha
          rw [List.cons_append]
          exact (List.Sublist.cons_cons x ((List.Sublist.refl p).append (List.sublist_cons_self y q)))
        · have h1 : (pr y, id y) = (pr x, id x) := by rw [e1, e2]
          simp only [List.map_cons, List.map_append, List.cons_append]
          rw [h1]
          congr 1
          have := hcomm p (pr x, id x) (fun z hz => by rw [(hsame z hz).1, (hsame z hz).2])
          rw [List.append_cons, ← this]
          rfl
    obtain ⟨q1, q2, q3⟩ := ht'
    rw [q3, List.map_cons, List.map_cons]
    congr 1
    exact sorted_keys q2 hb'.2 ((List.perm_cons y).1 (q1.symm.trans h))
theorem sorted_ids {A B : List α} (ha : SortedQ pr id A) (hb : SortedQ pr id B) (h : A.Perm B) : A.map id = B.map id := by
  have := congrArg (List.map Prod.snd) (sorted_keys pr id ha hb h)
  rw [List.map_map, List.map_map] at this
  exact this

/-- q is a queue of those of L that are pending. -/
def IsQ (pend : α → Bool) (L : List α) (q : List Int) : Prop := ∃ S, S.Perm (L.filter pend) ∧ SortedQ pr id S ∧ q = S.map id
variable {pend : α → Bool} {L L' : List α} {q q' : List Int}
theorem IsQ.uniq (h : IsQ pr id pend L q) (h' : IsQ pr id pend L q') : q' = q := by
  obtain ⟨S, h1, h2, rfl⟩ := h
  obtain ⟨S', h1', h2', rfl⟩ := h'
  exact sorted_ids pr id h2' h2 (h1'.trans h1.symm)
theorem IsQ.perm (h : IsQ pr id pend L q) (hp : L.Perm L') : IsQ pr id pend L' q := by
  obtain ⟨S, h1, h2, h3⟩ := h
  exact ⟨S, h1.trans (hp.filter pend), h2, h3⟩
theorem IsQ.len (h : IsQ pr id pend L q) : q.length = (L.filter pend).length := by
  obtain ⟨S, h1, _, rfl⟩ := h
  rw [List.length_map, h1.length_eq]
theorem IsQ.mem (h : IsQ pr id pend L q) {n : Int} (hn : n ∈ q) : ∃ j ∈ L, pend j = true ∧ id j = n := by
  obtain ⟨S, h1, _, rfl⟩ := h
  obtain ⟨j, hj, e⟩ := List.mem_map.1 hn
  have := List.mem_filter.1 (h1.mem_iff.1 hj)
  exact ⟨j, this.1, this.2, e⟩
/-- Unlike ids. -/
def Unlike (L : List α) : Prop := L.Pairwise (fun a b => id a ≠ id b)
theorem unlike_perm (h : Unlike id L) (hp : L.Perm L') : Unlike id L' := (hp.pairwise_iff (fun e k => e k.symm)).1 h
theorem unlike_filter (h : Unlike id L) : Unlike id (L.filter pend) := List.Pairwise.sublist List.filter_sublist h
theorem IsQ.ahead (h : IsQ pr id pend L q) (hu : Unlike id L) : ∃ S : List α, q = S.map id ∧ (∀ j ∈ S, j ∈ L ∧ pend j = true) ∧ S.Pairwise (fun a b => id a ≠ id b ∧ aheadB pr id a b = true ∧ aheadB pr id b a = false) := by
  obtain ⟨S, h1, h2, rfl⟩ := h
  have hu2 : Unlike id S := unlike_perm id (unlike_filter (pend := pend) id hu) h1.symm
  refine ⟨S, rfl, fun j hj => List.mem_filter.1 (h1.mem_iff.1 hj), ?_⟩
  unfold Unlike at hu2
  unfold SortedQ at h2
  refine (hu2.and h2).imp fun {a b} hab => ?_
  have h3 := (ahead_no pr id b a).2 hab.2
  exact ⟨hab.1, by rw [ahead_one pr id hab.1, h3]; rfl, h3⟩
/-- The queue without the first one of the list. -/
theorem IsQ.less {x : α} (h : IsQ pr id pend (x :: L) q) (hu : Unlike id (x :: L)) : IsQ pr id pend L (q.filter (fun n => decide (n ≠ id x))) := by
  obtain ⟨S, h1, h2, rfl⟩ := h
  refine ⟨S.filter (fun j => decide (id j ≠ id x)), ?_, h2.sublist List.filter_sublist, ?_⟩
  · refine (h1.filter _).trans ?_
    unfold Unlike at hu
    have hu' := List.pairwise_cons.1 hu
    have hall : (L.filter pend).filter (fun j => decide (id j ≠ id x)) = L.filter pend := by
      rw [List.filter_eq_self]
      intro j hj
      have := hu'.1 j (List.mem_filter.1 hj).1
      simpa using fun e => this e.symm
    rw [List.filter_cons]
    split
    · rw [List.filter_cons, if_neg (by simp), hall]
    · rw [hall]
  · rw [List.filter_map]
    rfl
end
end Go.Proofs.Ytflapjehkgefdaa
