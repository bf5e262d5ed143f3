/- Profiles, plain: spans of times and how they are joined, when a node is closed for an ask, the first fit. -/
import Derived.Test.YtilncacmkfohdaaGreatPfSame
import Derived.Test.YtilncacmkfohdaaGreatPfNdFirst
namespace Go.Proofs.YtilncacmkfohdaaGreat.Pf
open Nd (cnt lst lowk ofN lstk)

abbrev Span := Int × Int
def HoldsT (L : List Span) (t : Int) : Prop := ∃ s ∈ L, s.1 ≤ t ∧ t < s.2
def sp (L : List Span) (i : Nat) : Span := L.getD i (0, 0)

theorem sp_eq {L : List Span} {i : Nat} (h : i < L.length) : L[i] = sp L i := by simp [sp, List.getD, h]
theorem sp_mem {L : List Span} {i : Nat} (h : i < L.length) : sp L i ∈ L := by rw [← sp_eq h]; exact List.getElem_mem h

theorem holds_ix {L : List Span} {t : Int} : HoldsT L t ↔ ∃ i, i < L.length ∧ (sp L i).1 ≤ t ∧ t < (sp L i).2 := by
  constructor
  · rintro ⟨s, h, h1, h2⟩
    obtain ⟨i, hi, rfl⟩ := List.getElem_of_mem h
    rw [sp_eq hi] at h1 h2
    exact ⟨i, hi, h1, h2⟩
  · rintro ⟨i, h, h1, h2⟩
    exact ⟨_, sp_mem h, h1, h2⟩

theorem holds_append {A B : List Span} {t : Int} : HoldsT (A ++ B) t ↔ HoldsT A t ∨ HoldsT B t := by
  constructor
  · rintro ⟨s, h, h1⟩
    rcases List.mem_append.1 h with h | h
    · exact .inl ⟨s, h, h1⟩
    · exact .inr ⟨s, h, h1⟩
  · rintro (⟨s, h, h1⟩ | ⟨s, h, h1⟩)
    · exact ⟨s, List.mem_append_left _ h, h1⟩
    · exact ⟨s, List.mem_append_right _ h, h1⟩

theorem holds_one {s : Span} {t : Int} : HoldsT [s] t ↔ s.1 ≤ t ∧ t < s.2 := by
  constructor
  · rintro ⟨x, h, h1⟩; rw [List.mem_singleton.1 h] at h1; exact h1
  · intro h; exact ⟨s, List.mem_singleton.2 rfl, h⟩

theorem not_holds_nil {t : Int} : ¬ HoldsT [] t := by rintro ⟨s, h, _⟩; cases h

/-- Spans that rise and do not touch. -/
structure Apart (L : List Span) : Prop where
  proper : ∀ i, i < L.length → (sp L i).1 < (sp L i).2
  gap : ∀ i, i + 1 < L.length → (sp L i).2 < (sp L (i + 1)).1

theorem sp_left (A B : List Span) {i : Nat} (h : i < A.length) : sp (A ++ B) i = sp A i := by
  unfold sp
  rw [List.getD_eq_getElem?_getD, List.getD_eq_getElem?_getD, List.getElem?_append_left h]
theorem sp_last (A : List Span) (s : Span) : sp (A ++ [s]) A.length = s := by simp [sp]
theorem sp_set (A : List Span) (i : Nat) (s : Span) (h : i < A.length) (j : Nat) : sp (A.set i s) j = if j = i then s else sp A j := by
  unfold sp
  rw [List.getD_eq_getElem?_getD, List.getD_eq_getElem?_getD, List.getElem?_set]
  by_cases e : j = i
  · subst e; simp [h]
  · rw [if_neg (by omega), if_neg e]

/-- One span more, put to spans that rise. -/
def jn (A : List Span) (s : Span) : List Span :=
  if 0 < A.length ∧ s.1 ≤ (sp A (A.length - 1)).2 then A.set (A.length - 1) ((sp A (A.length - 1)).1, max (sp A (A.length - 1)).2 s.2) else A ++ [s]
def jnT (l : List Span) : Nat → List Span
  | 0 => []
  | k + 1 => jn (jnT l k) (sp l k)

structure JI (l : List Span) (k : Nat) (A : List Span) : Prop where
  apart : Apart A
  same : ∀ t, HoldsT A t ↔ HoldsT (l.take k) t
  low : ∀ i, i < A.length → ∀ j, k ≤ j → j < l.length → (sp A i).1 ≤ (sp l j).1

def SortedL (l : List Span) : Prop := ∀ i j, i < j → j < l.length → (sp l i).1 ≤ (sp l j).1
def ProperL (l : List Span) : Prop := ∀ s ∈ l, s.1 < s.2

theorem take_sp {l : List Span} {k : Nat} (h : k < l.length) : l.take (k + 1) = l.take k ++ [sp l k] := by
  rw [List.take_add_one, List.getElem?_eq_getElem h, sp_eq h]; rfl

theorem JI.step {l : List Span} {k : Nat} {A : List Span} (h : JI l k A) (hs : SortedL l) (hp : ProperL l) (hk : k < l.length) : JI l (k + 1) (jn A (sp l k)) := by
  have hpr := hp _ (sp_mem hk)
  have hsk : ∀ j, k + 1 ≤ j → j < l.length → (sp l k).1 ≤ (sp l j).1 := fun j h1 h2 => hs k j (by omega) h2
  unfold jn
  split
  · rename_i hc
    obtain ⟨h0, h1⟩ := hc
    have hlow := h.low (A.length - 1) (by omega) k (Nat.le_refl _) hk
    have hprA := h.apart.proper (A.length - 1) (by omega)
    refine ⟨⟨fun i hi => ?_, fun i hi => ?_⟩, fun t => ?_, fun i hi j h2 h3 => ?_⟩
    · rw [List.length_set] at hi
      rw [sp_set _ _ _ (by omega)]
      split
      · show _ < max _ _; omega
      · exact h.apart.proper i hi
    · rw [List.length_set] at hi
      rw [sp_set _ _ _ (by omega), sp_set _ _ _ (by omega), if_neg (by omega)]
      split
      · rename_i e
        have := h.apart.gap i hi
        rw [e] at this; exact this
      · exact h.apart.gap i hi
    · rw [take_sp hk, holds_append, holds_one, ← h.same t]
      rw [holds_ix, holds_ix, List.length_set]
      constructor
      · rintro ⟨i, hi, h2, h3⟩
        rw [sp_set _ _ _ (by omega)] at h2 h3
        split at h2
        · rename_i e
          rw [if_pos e] at h3
          simp only at h2 h3
          rcases Int.lt_or_le t (sp A (A.length - 1)).2 with h4 | h4
          · exact .inl ⟨A.length - 1, by omega, h2, h4⟩
          · exact .inr ⟨by omega, by omega⟩
        · rename_i e
          rw [if_neg e] at h3
          exact .inl ⟨i, hi, h2, h3⟩
      · rintro (⟨i, hi, h2, h3⟩ | ⟨h2, h3⟩)
        · refine ⟨i, hi, ?_, ?_⟩
          · rw [sp_set _ _ _ (by omega)]
            split
            · rename_i e; subst e; exact h2
            · exact h2
          · rw [sp_set _ _ _ (by omega)]
            split
            · rename_i e; subst e; show t < max _ _; omega
            · exact h3
        · refine ⟨A.length - 1, by omega, ?_, ?_⟩
          · rw [sp_set _ _ _ (by omega), if_pos rfl]; show (sp A (A.length - 1)).1 ≤ t; omega
          · rw [sp_set _ _ _ (by omega), if_pos rfl]; show t < max _ _; omega
    · rw [List.length_set] at hi
      rw [sp_set _ _ _ (by omega)]
      split
      · exact h.low _ (by omega) j (by omega) h3
      · exact h.low i hi j (by omega) h3
  · rename_i hc
    refine ⟨⟨fun i hi => ?_, fun i hi => ?_⟩, fun t => ?_, fun i hi j h2 h3 => ?_⟩
    · simp at hi
      rcases Nat.lt_or_ge i A.length with h1 | h1
      · rw [sp_left _ _ h1]; exact h.apart.proper i h1
      · have e : i = A.length := by omega
        subst e; rw [sp_last]; exact hpr
    · simp at hi
      rcases Nat.lt_or_ge (i + 1) A.length with h1 | h1
      · rw [sp_left _ _ h1, sp_left _ _ (by omega)]; exact h.apart.gap i h1
      · have e : i + 1 = A.length := by omega
        rw [e, sp_last, sp_left _ _ (by omega)]
        rcases Int.lt_or_le (sp A i).2 (sp l k).1 with h4 | h4
        · exact h4
        · exact absurd ⟨by omega, by rw [show A.length - 1 = i by omega]; exact h4⟩ hc
    · rw [take_sp hk, holds_append, holds_append, h.same t]
    · simp at hi
      rcases Nat.lt_or_ge i A.length with h1 | h1
      · rw [sp_left _ _ h1]; exact h.low i h1 j (by omega) h3
      · have e : i = A.length := by omega
        subst e; rw [sp_last]; exact hsk j h2 h3

theorem ji_all {l : List Span} (hs : SortedL l) (hp : ProperL l) : ∀ k, k ≤ l.length → JI l k (jnT l k) := by
  intro k
  induction k with
  | zero => intro _; exact ⟨⟨fun i hi => absurd hi (by simp [jnT]), fun i hi => absurd hi (by simp [jnT])⟩, fun t => by simp [jnT], fun i hi => absurd hi (by simp [jnT])⟩
  | succ k ih => intro hk; exact (ih (by omega)).step hs hp (by omega)

theorem jn_len (A : List Span) (s : Span) : (jn A s).length ≤ A.length + 1 := by
  unfold jn; split
  · rw [List.length_set]; omega
  · simp
theorem jnT_len (l : List Span) (k : Nat) : (jnT l k).length ≤ k := by
  induction k with
  | zero => simp [jnT]
  | succ k ih => have := jn_len (jnT l k) (sp l k); show (jn (jnT l k) (sp l k)).length ≤ _; omega

/-- What is told of spans that rise and do not touch: where none is over at t. -/
def ah (t : Int) (L : List Span) : List Span := L.dropWhile fun s => decide (s.2 ≤ t)
def till (L : List Span) (t : Int) : Int × Bool := match L with
  | [] => (0, false)
  | s :: _ => if t < s.1 then (0, false) else (s.2, true)

theorem Apart.tail {s : Span} {L : List Span} (h : Apart (s :: L)) : Apart L := by
  refine ⟨fun i hi => ?_, fun i hi => ?_⟩
  · have := h.proper (i + 1) (by simp; omega); exact this
  · have := h.gap (i + 1) (by simp; omega); exact this

theorem Apart.all {s : Span} {L : List Span} (h : Apart (s :: L)) : ∀ x ∈ L, s.2 < x.1 := by
  have key : ∀ i, i < L.length → s.2 < (sp L i).1 := by
    intro i
    induction i with
    | zero => intro hi; exact h.gap 0 (by simp; omega)
    | succ i ih =>
      intro hi
      have h1 := ih (by omega)
      have h2 := h.tail.gap i hi
      have h3 := h.tail.proper i (by omega)
      omega
  intro x hx
  obtain ⟨i, hi, rfl⟩ := List.getElem_of_mem hx
  rw [sp_eq hi]; exact key i hi

theorem ah_apart {t : Int} : ∀ {L : List Span}, Apart L → Apart (ah t L)
  | [], h => h
  | s :: L, h => by
    unfold ah
    rw [List.dropWhile_cons]
    split
    · exact ah_apart h.tail
    · exact h

theorem ah_holds {t u : Int} (hu : t ≤ u) : ∀ {L : List Span}, (HoldsT (ah t L) u ↔ HoldsT L u)
  | [] => Iff.rfl
  | s :: L => by
    unfold ah
    rw [List.dropWhile_cons]
    split
    · rename_i h
      refine (ah_holds hu (L := L)).trans ?_
      rw [show s :: L = [s] ++ L from rfl, holds_append, holds_one]
      have : s.2 ≤ t := by simpa using h
      constructor
      · exact .inr
      · rintro (h1 | h1)
        · omega
        · exact h1
    · exact Iff.rfl

theorem ah_head {t : Int} : ∀ {L : List Span} {s : Span} {M : List Span}, ah t L = s :: M → t < s.2
  | [], _, _, h => by cases h
  | x :: L, s, M, h => by
    unfold ah at h
    rw [List.dropWhile_cons] at h
    split at h
    · exact ah_head (L := L) h
    · rename_i hn
      cases h
      simpa using hn

/-- What the end tells: whether t is held, and up to when. -/
theorem till_is {t : Int} {L : List Span} (h : Apart L) (hh : ∀ s M, L = s :: M → t < s.2) : ((till L t).2 = true ↔ HoldsT L t) ∧ ((till L t).2 = true → t < (till L t).1 ∧ ∀ u, t ≤ u → u < (till L t).1 → HoldsT L u) := by
  cases L with
  | nil => exact ⟨⟨fun h => by simp [till] at h, fun h => absurd h not_holds_nil⟩, fun h => by simp [till] at h⟩
  | cons s M =>
    have h1 := hh s M rfl
    have h2 := h.all
    unfold till
    simp only
    split
    · rename_i h3
      refine ⟨⟨fun h => by simp at h, ?_⟩, fun h => by simp at h⟩
      rintro ⟨x, hx, h4, h5⟩
      rcases List.mem_cons.1 hx with rfl | hx
      · omega
      · have := h2 x hx
        have := h.proper 0 (by simp)
        simp [sp] at this
        omega
    · rename_i h3
      refine ⟨⟨fun _ => ⟨s, List.mem_cons_self, by omega, h1⟩, fun _ => rfl⟩, fun _ => ⟨h1, fun u h4 h5 => ⟨s, List.mem_cons_self, by omega, h5⟩⟩⟩

end Go.Proofs.YtilncacmkfohdaaGreat.Pf
