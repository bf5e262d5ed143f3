/- The first fit is at the ask's own time, at a cut's time or at a block's end. -/
import Derived.Test.YticlpjpbjgfgmaaFitP
namespace Go.Proofs.Yticlpjpbjgfgmaa
open Nd (cnt lst lstk lowk ofN firstP)

theorem rawC_mem {C : List Cut} {cores lim : Int} {s : Span} : ∀ {n : Nat}, s ∈ rawC C cores lim n → ∃ k, k < n ∧ s.2 = en C k := by
  intro n
  induction n with
  | zero => intro h; cases h
  | succ n ih =>
    intro h
    unfold rawC at h
    split at h
    · rcases List.mem_append.1 h with h | h
      · obtain ⟨k, h1, h2⟩ := ih h; exact ⟨k, by omega, h2⟩
      · rw [List.mem_singleton.1 h]; exact ⟨n, by omega, rfl⟩
    · obtain ⟨k, h1, h2⟩ := ih h; exact ⟨k, by omega, h2⟩

theorem rawB_mem {l : List Span} {node : Nat} {lim : Int} {B : List BlkP} {s : Span} : ∀ {n : Nat}, n ≤ B.length → s ∈ rawB l node lim B n → s ∈ l ∨ ∃ b ∈ B, s.2 = b.t := by
  intro n
  induction n with
  | zero => intro _ h; exact .inl h
  | succ n ih =>
    intro hn h
    unfold rawB at h
    split at h
    · rcases List.mem_append.1 h with h | h
      · exact ih (by omega) h
      · rw [List.mem_singleton.1 h]; exact .inr ⟨_, by rw [← bk_eq (by omega)]; exact List.getElem_mem _, rfl⟩
    · exact ih (by omega) h

/-- A time at which a node may open. -/
def CandT (P : List (List Cut)) (A : AskP) (t : Int) : Prop := t = A.fr ∨ (∃ i, i < P.length ∧ ∃ k, k < (P.getD i []).length ∧ t = tm (P.getD i []) k) ∨ ∃ b ∈ A.bs, t = b.t

theorem cand_open {P : List (List Cut)} {A : AskP} (hr : RightPr P) (hA : RightAsk A) {t : Int} (h0 : 0 ≤ t - 1) (h1 : t ≤ maxT) (hc : ¬ CandT P A t) : cnt (opn P A t) ≤ cnt (opn P A (t - 1)) := by
  refine cnt_mono fun i _ hb => ?_
  unfold opn at hb ⊢
  rw [gset_bit] at hb ⊢
  simp only [Bool.and_eq_true, decide_eq_true_eq, Bool.not_eq_true'] at hb ⊢
  obtain ⟨h5, h6, h7⟩ := hb
  refine ⟨h5, h6, ?_⟩
  cases hs : shutB (P.getD i []) i A (t - 1)
  · rfl
  · exfalso
    have hm : P.getD i [] ∈ P := by rw [List.getD_eq_getElem?_getD, List.getElem?_eq_getElem h5]; exact List.getElem_mem h5
    have hC := hr.2.2 _ hm
    simp only [maxT] at h1
    obtain ⟨s, hs1, hs2, hs3⟩ := (shut_raw hC hA i h0 (by omega)).1 hs
    have hn : ¬ HoldsT (rawL (P.getD i []) i A) t := fun h => by
      have := (shut_raw hC hA i (by omega) (by omega)).2 h
      rw [this] at h7; cases h7
    have ht : t = s.2 := by
      rcases Int.lt_or_le t s.2 with h | h
      · exact absurd ⟨s, hs1, by omega, h⟩ hn
      · omega
    rcases rawB_mem (Nat.le_refl _) hs1 with h | ⟨b, hb1, hb2⟩
    · obtain ⟨k, hk1, hk2⟩ := rawC_mem h
      by_cases hk : k + 1 < (P.getD i []).length
      · rw [en_in hk] at hk2
        exact hc (.inr (.inl ⟨i, h5, k + 1, hk, by omega⟩))
      · rw [en_out hk] at hk2
        omega
    · exact hc (.inr (.inr ⟨b, hb1, by omega⟩))

/-- A time at which enough nodes are open. -/
def goodT (P : List (List Cut)) (A : AskP) (t : Int) : Prop := A.fr ≤ t ∧ t ≤ maxT ∧ A.count ≤ (cnt (opn P A t) : Int)

theorem cand_good {P : List (List Cut)} {A : AskP} (hr : RightPr P) (hA : RightAsk A) : ∀ (d : Nat) (u : Int), u - A.fr ≤ (d : Int) → goodT P A u → ∃ v, CandT P A v ∧ goodT P A v ∧ v ≤ u := by
  have hf := hA.2.2.2.1
  intro d
  induction d with
  | zero =>
    intro u hu h
    have : u = A.fr := by have := h.1; omega
    exact ⟨u, .inl this, h, Int.le_refl _⟩
  | succ d ih =>
    intro u hu h
    by_cases hc : CandT P A u
    · exact ⟨u, hc, h, Int.le_refl _⟩
    · have h1 := h.1
      have hne : u ≠ A.fr := fun e => hc (.inl e)
      have hle := cand_open hr hA (t := u) (by omega) h.2.1 hc
      obtain ⟨v, h2, h3, h4⟩ := ih (u - 1) (by omega) ⟨by omega, by have := h.2.1; omega, by have := h.2.2; omega⟩
      exact ⟨v, h2, h3, by omega⟩

/-- All these times are in Z. -/
def CovZ (P : List (List Cut)) (A : AskP) (Z : List Int) : Prop := ∀ t, CandT P A t → t ∈ Z

/-- The best time of the first i. -/
def BestIs (P : List (List Cut)) (A : AskP) (Z : List Int) (i : Nat) (best : Int) : Prop := (best = -1 ∧ ∀ z ∈ Z.take i, ¬ goodT P A z) ∨ (goodT P A best ∧ ∀ z ∈ Z.take i, goodT P A z → best ≤ z)

theorem BestIs.zero (P : List (List Cut)) (A : AskP) (Z : List Int) : BestIs P A Z 0 (-1) := .inl ⟨rfl, fun z h => by simp at h⟩

theorem take_mem {Z : List Int} {i : Nat} (hi : i < Z.length) {z : Int} (h : z ∈ Z.take (i + 1)) : z ∈ Z.take i ∨ z = Z[i] := by
  rw [List.take_add_one, List.getElem?_eq_getElem hi] at h
  rcases List.mem_append.1 h with h | h
  · exact .inl h
  · simp at h; exact .inr h

theorem BestIs.keep {P : List (List Cut)} {A : AskP} {Z : List Int} {i : Nat} {best : Int} (h : BestIs P A Z i best) (hi : i < Z.length) (k : goodT P A Z[i] → 0 ≤ best ∧ best ≤ Z[i]) : BestIs P A Z (i + 1) best := by
  rcases h with ⟨h1, h2⟩ | ⟨h1, h2⟩
  · refine .inl ⟨h1, fun z hz => ?_⟩
    rcases take_mem hi hz with h | h
    · exact h2 z h
    · subst h; intro hg; have := (k hg).1; omega
  · refine .inr ⟨h1, fun z hz hg => ?_⟩
    rcases take_mem hi hz with h | h
    · exact h2 z h hg
    · subst h; exact (k hg).2

theorem BestIs.put {P : List (List Cut)} {A : AskP} {Z : List Int} {i : Nat} {best : Int} (h : BestIs P A Z i best) (hi : i < Z.length) (hg : goodT P A Z[i]) (k : best < 0 ∨ Z[i] < best) (hf : 0 ≤ A.fr) : BestIs P A Z (i + 1) Z[i] := by
  refine .inr ⟨hg, fun z hz hz2 => ?_⟩
  rcases take_mem hi hz with h3 | h3
  · rcases h with ⟨_, h2⟩ | ⟨h1, h2⟩
    · exact absurd hz2 (h2 z h3)
    · have := h2 z h3 hz2
      have := h1.1
      omega
  · omega

theorem BestIs.none_ {P : List (List Cut)} {A : AskP} {Z : List Int} {best : Int} (h : BestIs P A Z Z.length best) (hz : CovZ P A Z) (hr : RightPr P) (hA : RightAsk A) (hb : best < 0) : FitIs P A 0 0 120 := by
  have hf := hA.2.2.2.1
  rcases h with ⟨_, h2⟩ | ⟨h1, _⟩
  · refine .inr ⟨rfl, rfl, rfl, fun u hu1 hu2 => ?_⟩
    rcases Int.lt_or_le (cnt (opn P A u) : Int) A.count with h | h
    · exact h
    · obtain ⟨v, h3, h4, _⟩ := cand_good hr hA (u - A.fr).toNat u (by omega) ⟨hu1, hu2, h⟩
      exact absurd h4 (h2 v (by rw [List.take_length]; exact hz v h3))
  · have := h1.1; omega

theorem BestIs.some_ {P : List (List Cut)} {A : AskP} {Z : List Int} {best : Int} (h : BestIs P A Z Z.length best) (hz : CovZ P A Z) (hr : RightPr P) (hA : RightAsk A) (hb : 0 ≤ best) : goodT P A best ∧ FitIs P A best (lowk (opn P A best) A.count.toNat 32) 0 := by
  rcases h with ⟨h1, _⟩ | ⟨h1, h2⟩
  · omega
  · refine ⟨h1, .inl ⟨rfl, h1.1, h1.2.1, h1.2.2, rfl, fun u hu1 hu2 => ?_⟩⟩
    rcases Int.lt_or_le (cnt (opn P A u) : Int) A.count with h | h
    · exact h
    · obtain ⟨v, h3, h4, h5⟩ := cand_good hr hA (u - A.fr).toNat u (by omega) ⟨hu1, by have := h1.2.1; omega, h⟩
      have := h2 v (by rw [List.take_length]; exact hz v h3) h4
      omega

end Go.Proofs.Yticlpjpbjgfgmaa
