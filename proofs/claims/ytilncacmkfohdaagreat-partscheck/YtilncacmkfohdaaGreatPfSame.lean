/- Step functions, plain: values, cuts that rise, what a list of cuts describes. -/
import Derived.Test.YtilncacmkfohdaaGreatRows
import Derived.WalkKit
import Derived.WalkSpells
import Derived.WalkLawsBesides
import Derived.Laws.BytesArg
import Derived.Deep.QuietTactic
import Derived.BigQuiet
import Derived.Laws.CopyOwn
import Derived.Laws.OwnMore
import Derived.Maps.AppendAt
import Derived.Deep.RegionLaw
import Derived.Deep.RegionWith
import Derived.Laws.EntriesVeiled
import Derived.OneCell
import Derived.Deep.RegionHeld
import Derived.RegionTactic
namespace Go.Proofs.YtilncacmkfohdaaGreat.Pf

abbrev Cut := Int × Int

/-- The value of cuts at t, where it is v ahead of them all. -/
def valI (v : Int) (C : List Cut) (t : Int) : Int := C.foldl (fun v c => if c.1 ≤ t then c.2 else v) v
def val (C : List Cut) (t : Int) : Int := valI 0 C t

def tm (C : List Cut) (i : Nat) : Int := (C.getD i (0, 0)).1
def fr (C : List Cut) (i : Nat) : Int := (C.getD i (0, 0)).2

theorem tm_eq {C : List Cut} {i : Nat} (h : i < C.length) : C[i].1 = tm C i := by simp [tm, List.getD, h]
theorem fr_eq {C : List Cut} {i : Nat} (h : i < C.length) : C[i].2 = fr C i := by simp [fr, List.getD, h]

theorem valI_append (v : Int) (A B : List Cut) (t : Int) : valI v (A ++ B) t = valI (valI v A t) B t := by unfold valI; rw [List.foldl_append]
theorem valI_cons (v : Int) (c : Cut) (B : List Cut) (t : Int) : valI v (c :: B) t = valI (if c.1 ≤ t then c.2 else v) B t := rfl
theorem val_snoc (A : List Cut) (c : Cut) (t : Int) : val (A ++ [c]) t = if c.1 ≤ t then c.2 else val A t := by unfold val; rw [valI_append]; rfl

theorem take_more {C : List Cut} {k : Nat} (h : k < C.length) : C.take (k + 1) = C.take k ++ [C[k]] := by rw [List.take_add_one, List.getElem?_eq_getElem h]; rfl

theorem val_take {C : List Cut} {k : Nat} (h : k < C.length) (t : Int) : val (C.take (k + 1)) t = if tm C k ≤ t then fr C k else val (C.take k) t := by
  rw [take_more h, val_snoc, tm_eq h, fr_eq h]

/-- Times rise, and no two next to each other are the same. -/
def Rise (C : List Cut) : Prop := ∀ i, i + 1 < C.length → tm C i < tm C (i + 1) ∧ fr C i ≠ fr C (i + 1)

theorem Rise.lt {C : List Cut} (h : Rise C) {i j : Nat} (hij : i < j) (hj : j < C.length) : tm C i < tm C j := by
  induction j with
  | zero => omega
  | succ j ih =>
    have h1 := (h j hj).1
    rcases Nat.lt_or_ge i j with h2 | h2
    · have := ih h2 (by omega); omega
    · have : i = j := by omega
      subst this; exact h1

/-- t lies in the step k. -/
def In (C : List Cut) (k : Nat) (t : Int) : Prop := k < C.length ∧ tm C k ≤ t ∧ (k + 1 < C.length → t < tm C (k + 1))

theorem val_in {C : List Cut} (h : Rise C) {k : Nat} {t : Int} (hk : In C k t) : val C t = fr C k := by
  obtain ⟨h1, h2, h3⟩ := hk
  have key : ∀ d, k + 1 + d ≤ C.length → val (C.take (k + 1 + d)) t = fr C k := by
    intro d
    induction d with
    | zero => intro _; rw [Nat.add_zero, val_take h1, if_pos h2]
    | succ d ih =>
      intro hd
      have hlt : k + 1 + d < C.length := by omega
      rw [← Nat.add_assoc, val_take hlt, if_neg, ih (by omega)]
      have h4 := h3 (by omega)
      rcases Nat.eq_zero_or_pos d with h5 | h5
      · subst h5; simpa using h4
      · have := h.lt (i := k + 1) (j := k + 1 + d) (by omega) hlt
        omega
  have := key (C.length - (k + 1)) (by omega)
  rw [show k + 1 + (C.length - (k + 1)) = C.length by omega, List.take_length] at this
  exact this

theorem find {C : List Cut} (h0 : 0 < C.length) (hz : tm C 0 = 0) {t : Int} (ht : 0 ≤ t) : ∃ k, In C k t := by
  have key : ∀ m, m ≤ C.length → (∀ i, i < m → tm C i ≤ t) ∨ ∃ k, In C k t := by
    intro m
    induction m with
    | zero => intro _; exact .inl (fun i hi => absurd hi (by omega))
    | succ m ih =>
      intro hm
      rcases ih (by omega) with h | h
      · rcases Int.lt_or_le t (tm C m) with h1 | h1
        · have hm0 : 0 < m := by
            rcases Nat.eq_zero_or_pos m with e | e
            · subst e; omega
            · exact e
          refine .inr ⟨m - 1, by omega, h _ (by omega), fun _ => ?_⟩
          rw [show m - 1 + 1 = m by omega]; exact h1
        · refine .inl fun i hi => ?_
          rcases Nat.lt_or_ge i m with h2 | h2
          · exact h i h2
          · have : i = m := by omega
            subst this; exact h1
      · exact .inr h
  rcases key C.length (Nat.le_refl _) with h | h
  · exact ⟨C.length - 1, by omega, h _ (by omega), fun h2 => absurd h2 (by omega)⟩
  · exact h

theorem in_begin {C : List Cut} (h : Rise C) {k : Nat} (hk : k < C.length) : In C k (tm C k) := ⟨hk, Int.le_refl _, fun h1 => (h k h1).1⟩

/-- A right step function. -/
abbrev RightP (C : List Cut) : Prop := 0 < C.length ∧ C.length ≤ 4096 ∧ tm C 0 = 0 ∧ ∀ i, i < C.length → tm C i ≤ 2199023255552 ∧ (0 ≤ fr C i ∧ fr C i ≤ 1073741824) ∧ (0 < i → tm C (i - 1) < tm C i ∧ fr C (i - 1) ≠ fr C i)

def rightB (C : List Cut) : Bool := decide (RightP C)

theorem rightB_iff {C : List Cut} : rightB C = true ↔ RightP C := by simp [rightB]
theorem rightB_false {C : List Cut} (h : ¬ RightP C) : rightB C = false := by simp only [rightB, decide_eq_false_iff_not]; exact h

theorem RightP.rise {C : List Cut} (h : RightP C) : Rise C := fun i hi => by
  have := (h.2.2.2 (i + 1) hi).2.2 (by omega)
  simpa using this

theorem RightP.tm_nonneg {C : List Cut} (h : RightP C) {i : Nat} (hi : i < C.length) : 0 ≤ tm C i := by
  rcases Nat.eq_zero_or_pos i with e | e
  · subst e; rw [h.2.2.1]; omega
  · have := h.rise.lt e hi; rw [h.2.2.1] at this; omega

theorem RightP.val_bd {C : List Cut} (h : RightP C) {t : Int} (ht : 0 ≤ t) : 0 ≤ val C t ∧ val C t ≤ 1073741824 := by
  obtain ⟨k, hk⟩ := find h.1 h.2.2.1 ht
  rw [val_in h.rise hk]
  exact (h.2.2.2 k hk.1).2.1

/-- When step k ends. -/
def en (C : List Cut) (k : Nat) : Int := if k + 1 < C.length then tm C (k + 1) else 9223372036854775807

theorem in_of {C : List Cut} {k : Nat} {t : Int} (hk : k < C.length) (h1 : tm C k ≤ t) (h2 : t < en C k) : In C k t := by
  refine ⟨hk, h1, fun h => ?_⟩
  unfold en at h2
  rw [if_pos h] at h2
  exact h2

theorem in_en {C : List Cut} {k : Nat} {t : Int} (h : In C k t) (ht : t < 9223372036854775807) : t < en C k := by
  unfold en
  split
  · rename_i h1; exact h.2.2 h1
  · exact ht

theorem RightP.tm_en {C : List Cut} (h : RightP C) {k : Nat} (hk : k < C.length) : tm C k < en C k := by
  refine in_en (in_begin h.rise hk) ?_
  have := (h.2.2.2 k hk).1
  omega

/-- Only one step holds t. -/
theorem in_uniq {C : List Cut} (h : Rise C) {i k : Nat} {t : Int} (hi : In C i t) (hk : In C k t) : i = k := by
  rcases Nat.lt_trichotomy i k with h1 | h1 | h1
  · have h2 := hi.2.2 (by have := hk.1; omega)
    rcases Nat.eq_or_lt_of_le (show i + 1 ≤ k by omega) with e | e
    · have := hk.2.1; rw [← e] at this; omega
    · have := h.lt e hk.1; have := hk.2.1; omega
  · exact h1
  · have h2 := hk.2.2 (by have := hi.1; omega)
    rcases Nat.eq_or_lt_of_le (show k + 1 ≤ i by omega) with e | e
    · have := hi.2.1; rw [← e] at this; omega
    · have := h.lt e hi.1; have := hi.2.1; omega

/-- The value at t, as it is gathered step by step. -/
def avT (C : List Cut) (t : Int) : Nat → Int
  | 0 => 0
  | k + 1 => if tm C k ≤ t ∧ t < en C k then fr C k else avT C t k

theorem av_val {C : List Cut} (h : RightP C) {t : Int} (h0 : 0 ≤ t) (h1 : t ≤ 2199023255552) : avT C t C.length = val C t := by
  obtain ⟨K, hK⟩ := find h.1 h.2.2.1 h0
  rw [val_in h.rise hK]
  have key : ∀ d, K + 1 + d ≤ C.length → avT C t (K + 1 + d) = fr C K := by
    intro d
    induction d with
    | zero => intro _; exact if_pos ⟨hK.2.1, in_en hK (by omega)⟩
    | succ d ih =>
      intro hd
      show (if tm C (K + 1 + d) ≤ t ∧ t < en C (K + 1 + d) then fr C (K + 1 + d) else avT C t (K + 1 + d)) = _
      rw [if_neg, ih (by omega)]
      rintro ⟨h2, h3⟩
      have := in_uniq h.rise hK (in_of (by omega) h2 h3)
      omega
  have := key (C.length - (K + 1)) (by have := hK.1; omega)
  rw [show K + 1 + (C.length - (K + 1)) = C.length by have := hK.1; omega] at this
  exact this

/-- v is the least value from a on, below b. -/
def IsLeast (C : List Cut) (a b v : Int) : Prop := (∀ t, a ≤ t → t < b → v ≤ val C t) ∧ ∃ t, a ≤ t ∧ t < b ∧ val C t = v

theorem IsLeast.uniq {C : List Cut} {a b u v : Int} (h : IsLeast C a b u) (k : IsLeast C a b v) : u = v := by
  obtain ⟨h1, t, h2, h3, h4⟩ := h
  obtain ⟨k1, s, k2, k3, k4⟩ := k
  have := h1 s k2 k3
  have := k1 t h2 h3
  omega

def lsT (C : List Cut) (a b : Int) : Nat → Int
  | 0 => 1073741824
  | k + 1 => if tm C k < b ∧ a < en C k then min (lsT C a b k) (fr C k) else lsT C a b k

theorem lsT_succ (C : List Cut) (a b : Int) (k : Nat) : lsT C a b (k + 1) = if tm C k < b ∧ a < en C k then min (lsT C a b k) (fr C k) else lsT C a b k := rfl

theorem lsT_mono (C : List Cut) (a b : Int) (k d : Nat) : lsT C a b (k + d) ≤ lsT C a b k := by
  induction d with
  | zero => exact Int.le_refl _
  | succ d ih =>
    have : lsT C a b (k + d + 1) ≤ lsT C a b (k + d) := by
      rw [lsT_succ]
      split
      · exact Int.min_le_left _ _
      · exact Int.le_refl _
    rw [← Nat.add_assoc]
    omega

theorem ls_least {C : List Cut} (h : RightP C) {a b : Int} (h0 : 0 ≤ a) (h1 : a < b) (h2 : b ≤ 2199023255552) : IsLeast C a b (lsT C a b C.length) := by
  have low : ∀ t, a ≤ t → t < b → lsT C a b C.length ≤ val C t := by
    intro t ht1 ht2
    obtain ⟨K, hK⟩ := find h.1 h.2.2.1 (show 0 ≤ t by omega)
    rw [val_in h.rise hK]
    have hm := lsT_mono C a b (K + 1) (C.length - (K + 1))
    rw [show K + 1 + (C.length - (K + 1)) = C.length by have := hK.1; omega] at hm
    have : lsT C a b (K + 1) ≤ fr C K := by
      rw [lsT_succ, if_pos ⟨by have := hK.2.1; omega, by have := in_en hK (by omega); omega⟩]
      exact Int.min_le_right _ _
    omega
  refine ⟨low, ?_⟩
  have key : ∀ k, k ≤ C.length → lsT C a b k = 1073741824 ∨ ∃ t, a ≤ t ∧ t < b ∧ val C t = lsT C a b k := by
    intro k
    induction k with
    | zero => intro _; exact .inl rfl
    | succ k ih =>
      intro hk
      rw [lsT_succ]
      split
      · rename_i hc
        rcases Int.le_total (lsT C a b k) (fr C k) with h3 | h3
        · rw [Int.min_eq_left h3]; exact ih (by omega)
        · rw [Int.min_eq_right h3]
          refine .inr ⟨max a (tm C k), by omega, by omega, ?_⟩
          have := h.tm_en (show k < C.length by omega)
          exact val_in h.rise (in_of (by omega) (by omega) (by omega))
      · exact ih (by omega)
  rcases key C.length (Nat.le_refl _) with h3 | h3
  · refine ⟨a, Int.le_refl _, h1, ?_⟩
    have h4 := low a (Int.le_refl _) h1
    have h5 := (h.val_bd h0).2
    omega
  · exact h3

/-- The least value as the document has it gathered. -/
def rlT (C : List Cut) (a b : Int) : Nat → Int
  | 0 => val C a
  | k + 1 => if a < tm C k ∧ tm C k < b ∧ fr C k < rlT C a b k then fr C k else rlT C a b k

theorem rlT_succ (C : List Cut) (a b : Int) (k : Nat) : rlT C a b (k + 1) = if a < tm C k ∧ tm C k < b ∧ fr C k < rlT C a b k then fr C k else rlT C a b k := rfl

theorem rlT_mono (C : List Cut) (a b : Int) (k d : Nat) : rlT C a b (k + d) ≤ rlT C a b k := by
  induction d with
  | zero => exact Int.le_refl _
  | succ d ih =>
    have : rlT C a b (k + d + 1) ≤ rlT C a b (k + d) := by
      rw [rlT_succ]
      split <;> omega
    rw [← Nat.add_assoc]
    omega

theorem rl_least {C : List Cut} (h : RightP C) {a b : Int} (h0 : 0 ≤ a) (h1 : a < b) : IsLeast C a b (rlT C a b C.length) := by
  refine ⟨?_, ?_⟩
  · intro t ht1 ht2
    obtain ⟨K, hK⟩ := find h.1 h.2.2.1 (show 0 ≤ t by omega)
    have e := val_in h.rise hK
    rcases Int.lt_or_le a (tm C K) with h3 | h3
    · rw [e]
      have hm := rlT_mono C a b (K + 1) (C.length - (K + 1))
      rw [show K + 1 + (C.length - (K + 1)) = C.length by have := hK.1; omega] at hm
      have : rlT C a b (K + 1) ≤ fr C K := by
        rw [rlT_succ]
        have := hK.2.1
        split
        · omega
        · rename_i hc
          rcases Int.lt_or_le (fr C K) (rlT C a b K) with h4 | h4
          · exact absurd ⟨h3, by omega, h4⟩ hc
          · exact h4
      omega
    · have e2 := val_in h.rise (show In C K a from ⟨hK.1, h3, fun h4 => by have := hK.2.2 h4; omega⟩)
      have hm := rlT_mono C a b 0 C.length
      rw [Nat.zero_add] at hm
      have : rlT C a b 0 = val C a := rfl
      omega
  · have key : ∀ k, k ≤ C.length → ∃ t, a ≤ t ∧ t < b ∧ val C t = rlT C a b k := by
      intro k
      induction k with
      | zero => intro _; exact ⟨a, Int.le_refl _, h1, rfl⟩
      | succ k ih =>
        intro hk
        rw [rlT_succ]
        split
        · rename_i hc
          exact ⟨tm C k, by omega, by omega, val_in h.rise (in_begin h.rise (by omega))⟩
        · exact ih (by omega)
    exact key C.length (Nat.le_refl _)

theorem rl_ls {C : List Cut} (h : RightP C) {a b : Int} (h0 : 0 ≤ a) (h1 : a < b) (h2 : b ≤ 2199023255552) : rlT C a b C.length = lsT C a b C.length := (rl_least h h0 h1).uniq (ls_least h h0 h1 h2)

/-- The first fit, as it is gathered. -/
def ftT (C : List Cut) (a len n : Int) : Nat → Int
  | 0 => a
  | k + 1 => if fr C k < n ∧ tm C k < ftT C a len n k + len ∧ ftT C a len n k < en C k then en C k else ftT C a len n k

/-- Where step k begins, or the end of all. -/
def bg (C : List Cut) (k : Nat) : Int := if k < C.length then tm C k else 9223372036854775807

theorem en_bg (C : List Cut) (k : Nat) : en C k = bg C (k + 1) := rfl

/-- What holds of the first fit behind k steps. -/
structure FitI (C : List Cut) (a len n : Int) (k : Nat) (x : Int) : Prop where
  from_ : a ≤ x
  miss : ∀ u, a ≤ u → u < x → ∃ s, u ≤ s ∧ s < u + len ∧ val C s < n
  fits : ∀ s, x ≤ s → s < x + len → s < bg C k → n ≤ val C s
  cut : x = a ∨ ∃ i, i ≤ k ∧ 0 < i ∧ x = bg C i

theorem ft_inv {C : List Cut} (h : RightP C) {a len n : Int} (h0 : 0 ≤ a) (hl : 1 ≤ len) : ∀ k, k ≤ C.length → FitI C a len n k (ftT C a len n k) := by
  intro k
  induction k with
  | zero =>
    intro _
    refine ⟨Int.le_refl _, fun u h1 h2 => ?_, fun s h1 h2 h3 => ?_, .inl rfl⟩
    · simp [ftT] at h2; omega
    · have : bg C 0 = 0 := by unfold bg; rw [if_pos h.1]; exact h.2.2.1
      simp [ftT] at h1; omega
  | succ k ih =>
    intro hk
    have I := ih (by omega)
    have hkl : k < C.length := by omega
    have hb : bg C k = tm C k := by unfold bg; rw [if_pos hkl]
    have hfr := fun s (h1 : tm C k ≤ s) (h2 : s < en C k) => val_in h.rise (in_of hkl h1 h2)
    generalize hx : ftT C a len n k = x at I
    have e : ftT C a len n (k + 1) = if fr C k < n ∧ tm C k < x + len ∧ x < en C k then en C k else x := by rw [← hx]; rfl
    rw [e]
    split
    · rename_i hc
      obtain ⟨c1, c2, c3⟩ := hc
      have hte := h.tm_en hkl
      refine ⟨by have := I.from_; omega, fun u h1 h2 => ?_, fun s h1 h2 h3 => ?_, .inr ⟨k + 1, Nat.le_refl _, by omega, en_bg C k⟩⟩
      · rcases Int.lt_or_le u x with h4 | h4
        · exact I.miss u h1 h4
        · rcases Int.lt_or_le u (tm C k) with h5 | h5
          · exact ⟨tm C k, by omega, by omega, by rw [hfr _ (Int.le_refl _) hte]; exact c1⟩
          · exact ⟨u, Int.le_refl _, by omega, by rw [hfr _ h5 h2]; exact c1⟩
      · rw [← en_bg] at h3; omega
    · rename_i hc
      refine ⟨I.from_, I.miss, fun s h1 h2 h3 => ?_, ?_⟩
      · rw [← en_bg] at h3
        rcases Int.lt_or_le s (tm C k) with h4 | h4
        · exact I.fits s h1 h2 (by rw [hb]; exact h4)
        · rw [hfr s h4 h3]
          rcases Int.lt_or_le (fr C k) n with h5 | h5
          · exact absurd ⟨h5, by omega, by omega⟩ hc
          · exact h5
      · rcases I.cut with h1 | ⟨i, h1, h2, h3⟩
        · exact .inl h1
        · exact .inr ⟨i, by omega, h2, h3⟩

/-- t is the first fit. -/
def IsFit (C : List Cut) (a len n t : Int) : Prop := a ≤ t ∧ (∀ s, t ≤ s → s < t + len → n ≤ val C s) ∧ (∀ u, a ≤ u → u < t → ∃ s, u ≤ s ∧ s < u + len ∧ val C s < n) ∧ (t = a ∨ ∃ i, i < C.length ∧ t = tm C i)

def fitP (C : List Cut) (a len n : Int) : Int := ftT C a len n C.length

theorem fit_ok {C : List Cut} (h : RightP C) {a len n : Int} (h0 : 0 ≤ a) (hl : 1 ≤ len) (hl2 : len ≤ 1099511627776) (ht : fitP C a len n ≤ 1099511627776) : IsFit C a len n (fitP C a len n) := by
  have I := ft_inv h h0 hl (n := n) C.length (Nat.le_refl _)
  have hb : bg C C.length = 9223372036854775807 := by unfold bg; rw [if_neg (by omega)]
  refine ⟨I.from_, fun s h1 h2 => ?_, I.miss, ?_⟩
  · have h1' : ftT C a len n C.length ≤ s := h1
    have h2' : s < ftT C a len n C.length + len := h2
    have ht' : ftT C a len n C.length ≤ 1099511627776 := ht
    exact I.fits s h1 h2 (by rw [hb]; omega)
  · rcases I.cut with h1 | ⟨i, h1, h2, h3⟩
    · exact .inl h1
    · rcases Nat.lt_or_ge i C.length with h4 | h4
      · refine .inr ⟨i, h4, ?_⟩
        unfold bg at h3; rw [if_pos h4] at h3; exact h3
      · have h3' : fitP C a len n = bg C i := h3
        unfold bg at h3'; rw [if_neg (by omega)] at h3'
        omega

theorem fit_no {C : List Cut} (h : RightP C) {a len n : Int} (h0 : 0 ≤ a) (hl : 1 ≤ len) (ht : 1099511627776 < fitP C a len n) : ∀ u, a ≤ u → u ≤ 1099511627776 → ∃ s, u ≤ s ∧ s < u + len ∧ val C s < n := by
  have I := ft_inv h h0 hl (n := n) C.length (Nat.le_refl _)
  intro u h1 h2
  refine I.miss u h1 ?_
  have : 1099511627776 < ftT C a len n C.length := ht
  omega

end Go.Proofs.YtilncacmkfohdaaGreat.Pf

namespace Go.Proofs.YtilncacmkfohdaaGreat.Pf

abbrev isV (v : Int) : Prop := 0 ≤ v ∧ v ≤ 1073741824

def lastF (o : List Cut) : Int := fr o (o.length - 1)
def putL (o : List Cut) (x v : Int) : List Cut := if o.length = 0 ∨ lastF o ≠ v then o ++ [(x, v)] else o
def putS (s : List Cut × Bool) (x v : Int) : List Cut × Bool := (putL s.1 x v, s.2 || !decide (isV v))

theorem tm_left (o : List Cut) (c : Cut) {i : Nat} (h : i < o.length) : tm (o ++ [c]) i = tm o i := by
  simp [tm, List.getD, List.getElem?_append_left h]
theorem fr_left (o : List Cut) (c : Cut) {i : Nat} (h : i < o.length) : fr (o ++ [c]) i = fr o i := by
  simp [fr, List.getD, List.getElem?_append_left h]
theorem tm_last (o : List Cut) (c : Cut) : tm (o ++ [c]) o.length = c.1 := by simp [tm, List.getD]
theorem fr_last (o : List Cut) (c : Cut) : fr (o ++ [c]) o.length = c.2 := by simp [fr, List.getD]

/-- The cuts of s describe g from 0 on, below E; its sign tells whether a value of g there is none that may be. -/
structure Ds (g : Int → Int) (s : List Cut × Bool) (E : Int) : Prop where
  rise : Rise s.1
  low : ∀ i, i < s.1.length → 0 ≤ tm s.1 i ∧ tm s.1 i < E
  first : 0 < E → 0 < s.1.length ∧ tm s.1 0 = 0
  vals : ∀ t, 0 ≤ t → t < E → val s.1 t = g t
  over : s.2 = true ↔ ∃ t, 0 ≤ t ∧ t < E ∧ ¬ isV (g t)

theorem val_past {o : List Cut} (h : Rise o) (h0 : 0 < o.length) {t : Int} (ht : tm o (o.length - 1) ≤ t) : val o t = lastF o :=
  val_in h ⟨by omega, ht, fun h1 => absurd h1 (by omega)⟩

theorem Rise.snoc {o : List Cut} (h : Rise o) {x v : Int} (hn : 0 < o.length → tm o (o.length - 1) < x ∧ lastF o ≠ v) : Rise (o ++ [(x, v)]) := by
  intro i hi
  simp at hi
  rcases Nat.lt_or_ge (i + 1) o.length with h1 | h1
  · rw [tm_left o _ h1, fr_left o _ h1, tm_left o _ (by omega), fr_left o _ (by omega)]; exact h i h1
  · have e : i + 1 = o.length := by omega
    have h2 := hn (by omega)
    rw [tm_left o _ (by omega), fr_left o _ (by omega), e, tm_last, fr_last]
    rw [show o.length - 1 = i by omega] at h2
    refine ⟨h2.1, ?_⟩
    have := h2.2
    unfold lastF at this
    rw [show o.length - 1 = i by omega] at this
    exact this

theorem over_step {g : Int → Int} {s : List Cut × Bool} {x v : Int} (h : s.2 = true ↔ ∃ t, 0 ≤ t ∧ t < x ∧ ¬ isV (g t)) (hx : 0 ≤ x) (hv : g x = v) : (s.2 || !decide (isV v)) = true ↔ ∃ t, 0 ≤ t ∧ t < x + 1 ∧ ¬ isV (g t) := by
  rw [Bool.or_eq_true, h]
  constructor
  · rintro (⟨t, h1, h2, h3⟩ | h1)
    · exact ⟨t, h1, by omega, h3⟩
    · refine ⟨x, hx, by omega, ?_⟩
      rw [hv]
      intro hi
      rw [decide_eq_true hi] at h1
      cases h1
  · rintro ⟨t, h1, h2, h3⟩
    rcases Int.lt_or_le t x with h4 | h4
    · exact .inl ⟨t, h1, h4, h3⟩
    · have : t = x := by omega
      subst this
      rw [hv] at h3
      exact .inr (by rw [decide_eq_false h3]; rfl)

theorem Ds.put {g : Int → Int} {s : List Cut × Bool} {x v : Int} (h : Ds g s x) (hx : 0 ≤ x) (hv : g x = v) : Ds g (putS s x v) (x + 1) := by
  have hov := over_step h.over hx hv
  obtain ⟨o, q⟩ := s
  have hr : Rise o := h.rise
  have hl : ∀ i, i < o.length → 0 ≤ tm o i ∧ tm o i < x := h.low
  have hf : 0 < x → 0 < o.length ∧ tm o 0 = 0 := h.first
  have hvs : ∀ t, 0 ≤ t → t < x → val o t = g t := h.vals
  by_cases hc : o.length = 0 ∨ lastF o ≠ v
  · have e : putS (o, q) x v = (o ++ [(x, v)], q || !decide (isV v)) := by unfold putS putL; rw [if_pos hc]
    rw [e]
    refine ⟨?_, ?_, ?_, ?_, hov⟩
    · refine hr.snoc fun h0 => ⟨(hl _ (by omega)).2, ?_⟩
      rcases hc with h1 | h1
      · omega
      · exact h1
    · intro i hi
      simp at hi
      show 0 ≤ tm (o ++ [(x, v)]) i ∧ tm (o ++ [(x, v)]) i < x + 1
      rcases Nat.lt_or_ge i o.length with h1 | h1
      · rw [tm_left o _ h1]; have := hl i h1; omega
      · have e : i = o.length := by omega
        subst e
        rw [tm_last]
        show 0 ≤ x ∧ x < x + 1
        omega
    · intro _
      refine ⟨by simp, ?_⟩
      show tm (o ++ [(x, v)]) 0 = 0
      rcases Nat.eq_zero_or_pos o.length with h0 | h0
      · have : o = [] := List.eq_nil_of_length_eq_zero h0
        subst this
        show x = 0
        rcases Int.lt_or_le 0 x with h2 | h2
        · have := (hf h2).1; omega
        · omega
      · rw [tm_left o _ h0]
        have : 0 < x := by have := hl 0 h0; omega
        exact (hf this).2
    · intro t h1 h2
      show val (o ++ [(x, v)]) t = g t
      rw [val_snoc]
      split
      · rename_i h3
        have : t = x := by simp at h3; omega
        subst this; exact hv.symm
      · rename_i h3
        exact hvs t h1 (by simp at h3; omega)
  · have e : putS (o, q) x v = (o, q || !decide (isV v)) := by unfold putS putL; rw [if_neg hc]
    have h0 : 0 < o.length := by omega
    have h1 : lastF o = v := by
      rcases Decidable.em (lastF o = v) with h2 | h2
      · exact h2
      · exact absurd (.inr h2) hc
    rw [e]
    refine ⟨hr, fun i hi => ?_, fun _ => hf (by have := hl 0 h0; omega), fun t h2 h3 => ?_, hov⟩
    · have := hl i hi
      show 0 ≤ tm o i ∧ tm o i < x + 1
      omega
    · show val o t = g t
      rcases Int.lt_or_le t x with h4 | h4
      · exact hvs t h2 h4
      · have : t = x := by omega
        subst this
        rw [val_past hr h0 (by have := (hl (o.length - 1) (by omega)).2; omega), h1, hv]

theorem Ds.ext {g : Int → Int} {s : List Cut × Bool} {E E' : Int} (h : Ds g s E) (h0 : 0 < E) (hE : E ≤ E') (hg : ∀ t, E ≤ t → t < E' → g t = g (E - 1)) : Ds g s E' := by
  refine ⟨h.rise, fun i hi => by have := h.low i hi; omega, fun _ => h.first h0, fun t h1 h2 => ?_, h.over.trans ?_⟩
  · rcases Int.lt_or_le t E with h3 | h3
    · exact h.vals t h1 h3
    · rw [hg t h3 h2, ← h.vals (E - 1) (by omega) (by omega)]
      have hf := (h.first h0).1
      have hl := (h.low (s.1.length - 1) (by omega)).2
      rw [val_past h.rise hf (by omega), val_past h.rise hf (by omega)]
  · constructor
    · rintro ⟨t, h1, h2, h3⟩; exact ⟨t, h1, by omega, h3⟩
    · rintro ⟨t, h1, h2, h3⟩
      rcases Int.lt_or_le t E with h4 | h4
      · exact ⟨t, h1, h4, h3⟩
      · rw [hg t h4 h2] at h3
        exact ⟨E - 1, by omega, by omega, h3⟩

theorem Ds.seg {g : Int → Int} {s : List Cut × Bool} {x y v : Int} (h : Ds g s x) (hx : 0 ≤ x) (hy : x < y) (hv : ∀ t, x ≤ t → t < y → g t = v) : Ds g (putS s x v) y := by
  refine (h.put hx (hv x (Int.le_refl _) hy)).ext (by omega) (by omega) fun t h1 h2 => ?_
  rw [hv t (by omega) h2, show x + 1 - 1 = x by omega, hv x (Int.le_refl _) hy]

theorem Ds.again {g : Int → Int} {s : List Cut × Bool} {x : Int} (h : Ds g s (x + 1)) (hx : 0 ≤ x) : putS s x (g x) = s := by
  obtain ⟨o, q⟩ := s
  have hr : Rise o := h.rise
  have hf := h.first (by omega)
  have h0 : 0 < o.length := hf.1
  have hl : tm o (o.length - 1) < x + 1 := (h.low (o.length - 1) (by show o.length - 1 < o.length; omega)).2
  have hv : val o x = g x := h.vals x hx (by omega)
  rw [val_past hr h0 (by omega)] at hv
  unfold putS putL
  rw [if_neg (by rintro (h1 | h1) <;> simp_all)]
  congr 1
  show (q || !decide (isV (g x))) = q
  by_cases hb : isV (g x)
  · simp [hb]
  · have : q = true := h.over.2 ⟨x, hx, by omega, hb⟩
    rw [this]; rfl

theorem Ds.one {g : Int → Int} {s t : List Cut × Bool} {E : Int} (h : Ds g s E) (k : Ds g t E) : ∀ i, i < s.1.length → i < t.1.length ∧ tm s.1 i = tm t.1 i ∧ fr s.1 i = fr t.1 i := by
  intro i
  induction i with
  | zero =>
    intro h0
    have hE : 0 < E := by have := h.low 0 h0; omega
    obtain ⟨_, a1⟩ := h.first hE
    obtain ⟨b0, b1⟩ := k.first hE
    refine ⟨b0, by rw [a1, b1], ?_⟩
    have e1 := val_in h.rise (in_begin h.rise h0)
    have e2 := val_in k.rise (in_begin k.rise b0)
    rw [a1] at e1
    rw [b1] at e2
    rw [← e1, ← e2, h.vals 0 (by omega) hE, k.vals 0 (by omega) hE]
  | succ i ih =>
    intro hi
    obtain ⟨c1, c2, c3⟩ := ih (by omega)
    have hx := h.low (i + 1) hi
    have hri := h.rise i hi
    have v1 := val_in h.rise (in_begin h.rise hi)
    have g1 := h.vals _ hx.1 hx.2
    have g2 := k.vals _ hx.1 hx.2
    have hlt : i + 1 < t.1.length ∧ tm t.1 (i + 1) ≤ tm s.1 (i + 1) := by
      by_cases hc : i + 1 < t.1.length ∧ tm t.1 (i + 1) ≤ tm s.1 (i + 1)
      · exact hc
      · have v2 := val_in k.rise (show In t.1 i (tm s.1 (i + 1)) from ⟨c1, by omega, fun h1 => by
          rcases Int.lt_or_le (tm s.1 (i + 1)) (tm t.1 (i + 1)) with h2 | h2
          · exact h2
          · exact absurd ⟨h1, h2⟩ hc⟩)
        have := hri.2
        omega
    obtain ⟨d1, d2⟩ := hlt
    have hrk := k.rise i d1
    have e : tm t.1 (i + 1) = tm s.1 (i + 1) := by
      rcases Int.lt_or_le (tm t.1 (i + 1)) (tm s.1 (i + 1)) with h1 | h1
      · have hy := k.low (i + 1) d1
        have v3 := val_in h.rise (show In s.1 i (tm t.1 (i + 1)) from ⟨by omega, by omega, fun _ => h1⟩)
        have v4 := val_in k.rise (in_begin k.rise d1)
        have g3 := h.vals _ hy.1 hy.2
        have g4 := k.vals _ hy.1 hy.2
        have := hrk.2
        omega
      · omega
    refine ⟨d1, e.symm, ?_⟩
    have v5 := val_in k.rise (in_begin k.rise d1)
    rw [e] at v5
    omega

theorem Ds.uniq {g : Int → Int} {s t : List Cut × Bool} {E : Int} (h : Ds g s E) (k : Ds g t E) : s = t := by
  have h1 := h.one k
  have h2 := k.one h
  have hlen : s.1.length = t.1.length := by
    rcases Nat.lt_trichotomy s.1.length t.1.length with h3 | h3 | h3
    · have := (h2 _ h3).1; omega
    · exact h3
    · have := (h1 _ h3).1; omega
  refine Prod.ext (List.ext_getElem hlen fun i hi hj => ?_) ?_
  · obtain ⟨_, e1, e2⟩ := h1 i hi
    exact Prod.ext (by rw [tm_eq hi, tm_eq hj, e1]) (by rw [fr_eq hi, fr_eq hj, e2])
  · have := h.over.trans k.over.symm
    cases hs : s.2 <;> cases ht : t.2 <;> simp_all

theorem Ds.congr {g f : Int → Int} {s : List Cut × Bool} {E : Int} (h : Ds g s E) (e : ∀ t, 0 ≤ t → t < E → g t = f t) : Ds f s E := by
  refine ⟨h.rise, h.low, h.first, fun t h1 h2 => by rw [h.vals t h1 h2, e t h1 h2], h.over.trans ?_⟩
  constructor
  · rintro ⟨t, h1, h2, h3⟩; exact ⟨t, h1, h2, by rw [← e t h1 h2]; exact h3⟩
  · rintro ⟨t, h1, h2, h3⟩; exact ⟨t, h1, h2, by rw [e t h1 h2]; exact h3⟩

/-- A right step function describes itself. -/
theorem RightP.ds {C : List Cut} (h : RightP C) : Ds (val C) (C, false) 2199023255553 := by
  refine ⟨h.rise, fun i hi => ⟨h.tm_nonneg hi, ?_⟩, fun _ => ⟨h.1, h.2.2.1⟩, fun _ _ _ => rfl, ?_⟩
  · have := (h.2.2.2 i hi).1
    show tm C i < 2199023255553
    omega
  · constructor
    · intro h1; cases h1
    · rintro ⟨t, h1, _, h3⟩; exact absurd (h.val_bd h1) h3

theorem Ds.right {g : Int → Int} {s : List Cut × Bool} (h : Ds g s 2199023255553) (ho : s.2 = false) (hl : s.1.length ≤ 4096) : RightP s.1 := by
  have h0 := h.first (by omega)
  refine ⟨h0.1, hl, h0.2, fun i hi => ⟨by have := h.low i hi; omega, ?_, fun hp => ?_⟩⟩
  · have hb := h.low i hi
    have e := h.vals _ hb.1 hb.2
    rw [val_in h.rise (in_begin h.rise hi)] at e
    rcases Decidable.em (isV (g (tm s.1 i))) with h1 | h1
    · rw [e]; exact h1
    · have := h.over.2 ⟨_, hb.1, hb.2, h1⟩
      rw [ho] at this; cases this
  · have := h.rise (i - 1) (by omega)
    rw [show i - 1 + 1 = i by omega] at this
    exact this

/-- The values that are asked for. -/
def gv (C : List Cut) (a b n : Int) (t : Int) : Int := val C t + if a ≤ t ∧ t < b then n else 0

def ad1 (C : List Cut) (a : Int) (k : Nat) (s : List Cut × Bool) : List Cut × Bool := if tm C k < a then putS s (tm C k) (fr C k) else s
def ad2 (C : List Cut) (a b n : Int) (k : Nat) (s : List Cut × Bool) : List Cut × Bool := if tm C k < b ∧ a < en C k then putS s (max (tm C k) a) (fr C k + n) else s
def ad3 (C : List Cut) (b : Int) (k : Nat) (s : List Cut × Bool) : List Cut × Bool := if b < en C k then putS s (max (tm C k) b) (fr C k) else s
def adT (C : List Cut) (a b n : Int) : Nat → List Cut × Bool
  | 0 => ([], false)
  | k + 1 => ad3 C b k (ad2 C a b n k (ad1 C a k (adT C a b n k)))

def bgT (C : List Cut) (k : Nat) : Int := if k < C.length then tm C k else 2199023255553

theorem ad_ds {C : List Cut} (h : RightP C) {a b n : Int} (h0 : 0 ≤ a) (h1 : a < b) (h2 : b ≤ 2199023255552) : ∀ k, k ≤ C.length → Ds (gv C a b n) (adT C a b n k) (bgT C k) := by
  intro k
  induction k with
  | zero =>
    intro _
    have : bgT C 0 = 0 := by unfold bgT; rw [if_pos h.1]; exact h.2.2.1
    rw [this]
    refine ⟨fun i hi => absurd hi (by simp [adT]), fun i hi => absurd hi (by simp [adT]), fun h => absurd h (by omega), fun t h3 h4 => by omega, ?_⟩
    constructor
    · intro h3; cases h3
    · rintro ⟨t, h3, h4, _⟩; omega
  | succ k ih =>
    intro hk
    have S0 := ih (by omega)
    have hkl : k < C.length := by omega
    have hb : bgT C k = tm C k := by unfold bgT; rw [if_pos hkl]
    have hn := h.tm_nonneg hkl
    have hT := (h.2.2.2 k hkl).1
    have hfr : ∀ s, tm C k ≤ s → s < bgT C (k + 1) → val C s = fr C k := by
      intro s s1 s2
      refine val_in h.rise ⟨hkl, s1, fun h3 => ?_⟩
      unfold bgT at s2; rw [if_pos h3] at s2; exact s2
    have hte : tm C k < bgT C (k + 1) := by
      unfold bgT
      split
      · rename_i h3; exact (h.rise k h3).1
      · omega
    have hea : a < en C k ↔ a < bgT C (k + 1) := by
      unfold en bgT
      split
      · exact Iff.rfl
      · omega
    have heb : b < en C k ↔ b < bgT C (k + 1) := by
      unfold en bgT
      split
      · exact Iff.rfl
      · omega
    rw [hb] at S0
    show Ds _ (ad3 C b k (ad2 C a b n k (ad1 C a k (adT C a b n k)))) _
    generalize adT C a b n k = s0 at S0
    generalize hE : bgT C (k + 1) = E at *
    have S1 : Ds (gv C a b n) (ad1 C a k s0) (max (tm C k) (min a E)) := by
      unfold ad1
      split
      · refine S0.seg hn (by omega) fun t t1 t2 => ?_
        unfold gv
        rw [hfr t t1 (by omega), if_neg (by omega)]
        omega
      · rw [show max (tm C k) (min a E) = tm C k by omega]
        exact S0
    have S2 : Ds (gv C a b n) (ad2 C a b n k (ad1 C a k s0)) (if tm C k < b ∧ a < E then min b E else max (tm C k) (min a E)) := by
      unfold ad2
      simp only [hea]
      split
      · rename_i hc
        rw [show max (tm C k) (min a E) = max (tm C k) a by omega] at S1
        refine S1.seg (by omega) (by omega) fun t t1 t2 => ?_
        unfold gv
        rw [hfr t (by omega) (by omega), if_pos (by omega)]
      · exact S1
    unfold ad3
    simp only [heb]
    split
    · rename_i hc
      have e : (if tm C k < b ∧ a < E then min b E else max (tm C k) (min a E)) = max (tm C k) b := by split <;> omega
      rw [e] at S2
      refine S2.seg (by omega) (by omega) fun t t1 t2 => ?_
      unfold gv
      rw [hfr t (by omega) (by omega), if_neg (by omega)]
      omega
    · rename_i hc
      have e : (if tm C k < b ∧ a < E then min b E else max (tm C k) (min a E)) = E := by split <;> omega
      rw [e] at S2
      exact S2

def addP (C : List Cut) (a b n : Int) : List Cut × Bool := adT C a b n C.length

theorem add_ds {C : List Cut} (h : RightP C) {a b n : Int} (h0 : 0 ≤ a) (h1 : a < b) (h2 : b ≤ 2199023255552) : Ds (gv C a b n) (addP C a b n) 2199023255553 := by
  have := ad_ds h h0 h1 h2 (n := n) C.length (Nat.le_refl _)
  unfold bgT at this
  rw [if_neg (by omega)] at this
  exact this

theorem putS_len (s : List Cut × Bool) (x v : Int) : (putS s x v).1.length ≤ s.1.length + 1 := by
  unfold putS putL
  show (if _ then _ else _ : List Cut).length ≤ _
  split
  · simp
  · omega

theorem adT_len (C : List Cut) (a b n : Int) (k : Nat) : (adT C a b n k).1.length ≤ 3 * k := by
  induction k with
  | zero => simp [adT]
  | succ k ih =>
    have e1 : (ad1 C a k (adT C a b n k)).1.length ≤ (adT C a b n k).1.length + 1 := by
      unfold ad1; split
      · exact putS_len _ _ _
      · omega
    have e2 : (ad2 C a b n k (ad1 C a k (adT C a b n k))).1.length ≤ (ad1 C a k (adT C a b n k)).1.length + 1 := by
      unfold ad2; split
      · exact putS_len _ _ _
      · omega
    have e3 : (ad3 C b k (ad2 C a b n k (ad1 C a k (adT C a b n k)))).1.length ≤ (ad2 C a b n k (ad1 C a k (adT C a b n k))).1.length + 1 := by
      unfold ad3; split
      · exact putS_len _ _ _
      · omega
    show (ad3 C b k (ad2 C a b n k (ad1 C a k (adT C a b n k)))).1.length ≤ _
    omega

/-- What Add tells. -/
abbrev winP (a b : Int) : Prop := 0 ≤ a ∧ a < b ∧ b ≤ 2199023255552
abbrev argP (C : List Cut) (a b n : Int) : Prop := RightP C ∧ winP a b ∧ (-1073741824 ≤ n ∧ n ≤ 1073741824)
def addA (C : List Cut) (a b n : Int) : List Cut × Int :=
  if argP C a b n then (if (addP C a b n).2 = true then ([], 120) else if 4096 < (addP C a b n).1.length then ([], 5) else ((addP C a b n).1, 0)) else ([], 2)

/-- What is told is right; its values are as asked; adding back is what there was. -/
theorem add_good {C : List Cut} {a b n : Int} (h : (addA C a b n).2 = 0) :
    argP C a b n ∧ RightP (addA C a b n).1 ∧ (∀ t, 0 ≤ t → t ≤ 2199023255552 → val (addA C a b n).1 t = gv C a b n t) ∧ addA (addA C a b n).1 a b (-n) = (C, 0) := by
  by_cases hg : argP C a b n
  · have hd := add_ds hg.1 hg.2.1.1 hg.2.1.2.1 hg.2.1.2.2 (n := n)
    unfold addA at h
    rw [if_pos hg] at h
    by_cases ho : (addP C a b n).2 = true
    · rw [if_pos ho] at h; cases h
    · rw [if_neg ho] at h
      by_cases hf : 4096 < (addP C a b n).1.length
      · rw [if_pos hf] at h; cases h
      · have e : addA C a b n = ((addP C a b n).1, 0) := by unfold addA; rw [if_pos hg, if_neg ho, if_neg hf]
        have hr := hd.right (by simpa using ho) (by omega)
        rw [e]
        refine ⟨hg, hr, fun t h1 h2 => hd.vals t h1 (by omega), ?_⟩
        have hg2 : argP (addP C a b n).1 a b (-n) := ⟨hr, hg.2.1, by have := hg.2.2; omega⟩
        have hd2 := add_ds hr hg.2.1.1 hg.2.1.2.1 hg.2.1.2.2 (n := -n)
        have hd3 : Ds (val C) (addP (addP C a b n).1 a b (-n)) 2199023255553 := by
          refine hd2.congr fun t h1 h2 => ?_
          unfold gv
          rw [hd.vals t h1 h2]
          unfold gv
          split <;> omega
        have e2 := hd3.uniq hg.1.ds
        have hl := hg.1.2.1
        show addA (addP C a b n).1 a b (-n) = (C, 0)
        unfold addA
        rw [if_pos hg2, e2]
        simp; omega
  · unfold addA at h; rw [if_neg hg] at h; cases h

end Go.Proofs.YtilncacmkfohdaaGreat.Pf

namespace Go.Proofs.YtilncacmkfohdaaGreat.Pf
open Go.RowKit

theorem ret_bool {a b : Bool} (h : a = b) : Ending.returned (.bool a) = .returned (.bool b) := by rw [h]
theorem ret_int {k : IntKind} {a b : Int} (h : a = b) : Ending.returned (.int k a) = .returned (.int k b) := by rw [h]
theorem below_lit (w : World) (o : Obj) : Below w.heap.size w (w.alloc o) := (Below.refl _ _).alloc (Nat.le_refl _) _
theorem bnext {w a b : World} (h : Below w.heap.size w a) (k : Below a.heap.size a b) : Below w.heap.size w b := h.trans (k.mono h.size)
def intOf : Value → Int
  | .int _ x => x
  | _ => 0
theorem info_parts {t : Nat} {z : Value} {s b : Nat} (h : (Tryz.prog.info? t).map (fun i => (i.zero, i.size, i.bytes)) = some (some z, s, b)) : ∃ i, Tryz.prog.info? t = some i ∧ i.zero = some z ∧ i.size = s ∧ i.bytes = b := by
  cases hi : Tryz.prog.info? t with
  | none => rw [hi] at h; cases h
  | some i =>
    rw [hi] at h
    simp only [Option.map_some, Option.some.injEq, Prod.mk.injEq] at h
    exact ⟨i, rfl, h.1, h.2.1, h.2.2⟩


/-- Of the blocks of w only those in S may have turned. -/
structure Kp (S : Nat → Prop) (w w' : World) : Prop where
  os : w'.os = w.os
  tape : w'.tape = w.tape
  output : w'.output = w.output
  size : w.heap.size ≤ w'.heap.size
  block : ∀ k, k < w.heap.size → ¬ S k → w'.heap[k]? = w.heap[k]?

theorem Kp.refl (S : Nat → Prop) (w : World) : Kp S w w := ⟨rfl, rfl, rfl, Nat.le_refl _, fun _ _ _ => rfl⟩

theorem Kp.trans {S : Nat → Prop} {a b c : World} (h : Kp S a b) (k : Kp S b c) : Kp S a c :=
  ⟨k.os.trans h.os, k.tape.trans h.tape, k.output.trans h.output, Nat.le_trans h.size k.size, fun i hi hs => (k.block i (Nat.lt_of_lt_of_le hi h.size) hs).trans (h.block i hi hs)⟩

theorem Kp.mono {S S' : Nat → Prop} {w w' : World} (h : Kp S w w') (hs : ∀ k, k < w.heap.size → S k → S' k) : Kp S' w w' := ⟨h.os, h.tape, h.output, h.size, fun k hk hn => h.block k hk fun h1 => hn (hs k hk h1)⟩

theorem Kp.of_below {S : Nat → Prop} {w w' : World} (h : Below w.heap.size w w') : Kp S w w' := ⟨h.os, h.tape, h.output, h.size, fun k hk _ => h.block k hk⟩

/-- Two steps: what the second one turns is in S, or new to the first. -/
theorem Kp.next {S S' : Nat → Prop} {a b c : World} (h : Kp S a b) (k : Kp S' b c) (hs : ∀ i, i < a.heap.size → S' i → S i) : Kp S a c :=
  ⟨k.os.trans h.os, k.tape.trans h.tape, k.output.trans h.output, Nat.le_trans h.size k.size, fun i hi hn => (k.block i (Nat.lt_of_lt_of_le hi h.size) fun h1 => hn (hs i hi h1)).trans (h.block i hi hn)⟩

theorem Kp.then {S : Nat → Prop} {a b c : World} (h : Kp S a b) (k : Below b.heap.size b c) : Kp S a c := h.trans (Kp.of_below k)

theorem Kp.below {S : Nat → Prop} {w w' : World} {base : Nat} (h : Kp S w w') (hs : ∀ k, S k → base ≤ k) (hb : base ≤ w.heap.size) : Below base w w' :=
  ⟨h.os, h.tape, h.output, h.size, fun k hk => h.block k (by omega) fun h1 => by have := hs k h1; omega⟩

theorem Kp.grown {w w' : World} {row : Option Nat} (h : w.grownBy w' row) : Kp (fun k => row = some k) w w' := ⟨h.os, h.tape, h.output, h.size, fun k hk hn => h.block k hk fun e => hn e.symm⟩

theorem Kp.setCell {S : Nat → Prop} {a w : World} (h : Kp S a w) {p : Addr} (hp : S p.block) (u : Value) : Kp S a (w.setCell p u) :=
  h.trans ⟨rfl, rfl, rfl, by simp [World.setCell], fun k _ hn => Below.heap_setCell _ _ _ _ (fun e => hn (by rw [e]; exact hp))⟩

theorem owns_kp {S : Nat → Prop} {w w' : World} {base : Nat} {e : TypeId} {size : Nat} {v : Value} {n : Nat} {xs : List Value} (h : w.ownsRow base e size v n xs) (hk : Kp S w w') (hn : ∀ k, v.ownBlock = some k → ¬ S k) : w'.ownsRow base e size v n xs := by
  refine ⟨h.1, ?_⟩
  rcases h.2 with hn0 | ⟨g, cap, cur, rfl, hb, hgg, rest⟩
  · exact .inl hn0
  · refine .inr ⟨g, cap, cur, rfl, hb, ?_, rest⟩
    rw [hk.block g (Array.getElem?_eq_some_iff.1 hgg).1 (hn g rfl)]
    exact hgg



/-- These cells lie behind the address a. -/
def CAt (w : World) (a : Option Addr) (cs : List Value) : Prop :=
  cs ≠ [] → ∃ b o, a = some ⟨b, o, none⟩ ∧ ∀ i (h : i < cs.length), w.cell? ⟨b, o + i, none⟩ = some cs[i]

theorem CAt.kp {S : Nat → Prop} {w w' : World} {a : Option Addr} {cs : List Value} (h : CAt w a cs) (hk : Kp S w w') (hn : ∀ x, a = some x → ¬ S x.block) : CAt w' a cs := by
  intro hl
  obtain ⟨b, o, rfl, hc⟩ := h hl
  refine ⟨b, o, rfl, fun i hi => ?_⟩
  have h1 := hc i hi
  rw [World.cell?_of_block (w := w) (a := ⟨b, o + i, none⟩) (hk.block b (World.block_lt_of_cell? w _ h1) (hn ⟨b, o, none⟩ rfl))]
  exact h1

theorem CAt.below {w w' : World} {a : Option Addr} {cs : List Value} (h : CAt w a cs) (hb : Below w.heap.size w w') : CAt w' a cs := h.kp (S := fun _ => False) (Kp.of_below hb) (fun _ _ h => h)

theorem CAt.nil (w : World) (a : Option Addr) : CAt w a [] := fun h => absurd rfl h

theorem CAt.lt {w : World} {a : Option Addr} {cs : List Value} (h : CAt w a cs) (hl : cs ≠ []) : ∀ x, a = some x → x.block < w.heap.size := by
  obtain ⟨b, o, rfl, hc⟩ := h hl
  intro x hx
  cases hx
  exact World.block_lt_of_cell? w _ (hc 0 (List.length_pos_iff.2 hl))

/-- As CAt.kp, where the block is told by its number being below n. -/
theorem CAt.src {w : World} {x : Addr} {cs : List Value} (h : CAt w (some x) cs) : ∀ j v, cs[j]? = some v → w.cell? (x.add j) = some v := by
  intro j v hj
  have hjl : j < cs.length := by
    rcases Nat.lt_or_ge j cs.length with h | h
    · exact h
    · simp [List.getElem?_eq_none h] at hj
  obtain ⟨b, q, hx, hc⟩ := h (by intro e; subst e; simp at hjl)
  cases hx
  have hplain : (⟨b, q, none⟩ : Addr).add j = ⟨b, q + j, none⟩ := by unfold Addr.add; split <;> simp_all
  rw [hplain, hc j hjl]
  rw [List.getElem?_eq_getElem hjl] at hj
  exact hj
theorem owns_form {w : World} {base e size n : Nat} {v : Value} {xs : List Value} (h : w.ownsRow base e size v n xs) : ∃ a c, v = .slice a n c ∧ n ≤ c := by
  rcases h.2 with ⟨rfl, hn⟩ | ⟨g, cap, cur, rfl, _, _, hc, _⟩
  · exact ⟨none, 0, by rw [hn], by omega⟩
  · exact ⟨_, cap, rfl, hc⟩

theorem owns_cat {w : World} {base e size n m c : Nat} {a : Option Addr} {xs : List Value} (h : w.ownsRow base e size (.slice a m c) n xs) : CAt w a xs := by
  intro hne
  have hl := h.1
  rcases h.2 with ⟨_, hn⟩ | ⟨g, cap, cur, hv, _, hg, _, _, _, ht⟩
  · subst hn; rw [Nat.zero_mul] at hl; exact absurd (List.eq_nil_of_length_eq_zero hl) hne
  · simp only [Value.slice.injEq] at hv
    obtain ⟨rfl, _, _⟩ := hv
    refine ⟨g, 0, rfl, fun i hi => ?_⟩
    have h1 : (cur.toList.take (n * size))[i]? = some xs[i] := by rw [ht, List.getElem?_eq_getElem hi]
    rw [List.getElem?_take, if_pos (by omega)] at h1
    rw [Nat.zero_add]; simp [World.cell?, hg]; simpa using h1

theorem owns_low {w : World} {base base' e size n : Nat} {v : Value} {xs : List Value} (h : w.ownsRow base e size v n xs) (hb : base' ≤ base) : w.ownsRow base' e size v n xs := by
  refine ⟨h.1, ?_⟩
  rcases h.2 with h1 | ⟨g, cap, cur, h1, h2, h3⟩
  · exact .inl h1
  · exact .inr ⟨g, cap, cur, h1, by omega, h3⟩

theorem owns_below {w w' : World} {base e size n : Nat} {v : Value} {xs : List Value} (h : w.ownsRow base e size v n xs) (hb : Below w.heap.size w w') : w'.ownsRow base e size v n xs := owns_kp h (Kp.of_below (S := fun _ => False) hb) (fun _ _ h => h)

/-- Nothing that lies at n or above, but new memory alone. -/
def Fresh (n : Nat) (a : Option Addr) : Prop := ∀ x, a = some x → n ≤ x.block
theorem fresh_none (n : Nat) : Fresh n none := fun _ h => by cases h
theorem fresh_at {n : Nat} {x : Addr} (h : n ≤ x.block) : Fresh n (some x) := fun y e => by cases e; exact h
theorem owns_fresh {w : World} {base e size n m c : Nat} {a : Option Addr} {xs : List Value} (h : w.ownsRow base e size (.slice a m c) n xs) : Fresh base a := by
  rcases h.2 with ⟨hv, _⟩ | ⟨g, cap, cur, hv, hb, _⟩
  · simp only [Value.slice.injEq] at hv
    rw [hv.1]; exact fresh_none _
  · simp only [Value.slice.injEq] at hv
    rw [hv.1]; exact fresh_at hb
theorem Fresh.low {n m : Nat} {a : Option Addr} (h : Fresh n a) (k : m ≤ n) : Fresh m a := fun x e => Nat.le_trans k (h x e)

/-- 'append(v, x...)' of any elements: v the call's own. -/
theorem cat_run (w : World) (base t ty e : Nat) (i : TypeInfo) (z : Value) (size bytes : Nat) (ht : Tryz.prog.underlying t = some (.slice e)) (hi : Tryz.prog.info? e = some i) (hz : i.zero = some z)
    (hsize : i.size = size) (hby : i.bytes = bytes) (hzs : z.cells.size = size) (hsz : 0 < size) (v : Value) (n : Nat) (xs : List Value) (hown : w.ownsRow base e size v n xs)
    (a : Option Addr) (m c : Nat) (news : List Value) (hl : news.length = m * size) (hat : CAt w a news) (h1 : ∀ u ∈ news, u.oneCell' = true)
    (h63 : n + m ≤ maxLen) (hbytes : (n + m) * bytes ≤ 140737488355328) (hbase : base ≤ w.heap.size) :
    ∃ v' w', (Builtin.append_ #[t, t] ty #[v, .slice a m c]).run Tryz.prog w = .ok v' w' ∧ w'.ownsRow base e size v' (n + m) (xs ++ news) ∧ w.grownBy w' v.ownBlock ∧ (v'.ownBlock = v.ownBlock ∨ v'.ownBlock = some w.heap.size) := by
  cases a with
  | none =>
    have he : news = [] := by
      rcases news with _ | ⟨x, r⟩
      · rfl
      · obtain ⟨b, o, h, _⟩ := hat (by simp); cases h
    subst he
    have hm : m = 0 := by
      rw [List.length_nil] at hl
      rcases Nat.mul_eq_zero.1 hl.symm with h | h
      · exact h
      · omega
    subst hm
    refine ⟨v, w, ?_, by simpa using hown, World.grownBy.refl _ _, .inl rfl⟩
    rcases hown.2 with ⟨rfl, hn⟩ | ⟨g, cap, cur, rfl, hbg, hg, hnc, hcm, hcs, htake⟩
    · simp [Builtin.append_, run_underlying ht, sizeOf, typeInfo, hi, Builtin.lenOf, Builtin.firstCells]
    · simp [Builtin.append_, run_underlying ht, sizeOf, typeInfo, hi, Builtin.lenOf, Builtin.firstCells, hnc, storeCells]
  | some x =>
    obtain ⟨v', w', h2, h3, h4, _, h6⟩ := run_append_own_at (P := Tryz.prog) w base t ty e i z size bytes ht hi hz hsize hby hzs hsz v n xs hown x m c news hl hat.src h1 h63 hbytes hbase
    exact ⟨v', w', h2, h3, h4, h6⟩

theorem wpList_cat (w : World) {ops : Array Oper} {rest : List Oper} {o : Oper} {a : Act} {Q : Exit → Act → World → Prop} (hgd : o.guard = none) (s x : Operand) (t : Nat)
    (ho : o.op = .call { callee := .builtin .append, args := #[s, x], argTypes := #[t, t] })
    (base e : Nat) (i : TypeInfo) (z : Value) (size bytes : Nat) (ht : Tryz.prog.underlying t = some (.slice e)) (hi : Tryz.prog.info? e = some i) (hz : i.zero = some z)
    (hsize : i.size = size) (hby : i.bytes = bytes) (hzs : z.cells.size = size) (hsz : 0 < size) (v : Value) (n : Nat) (xs : List Value) (hs : a.eval s = v) (hown : w.ownsRow base e size v n xs)
    (ad : Option Addr) (m c : Nat) (news : List Value) (hx : a.eval x = .slice ad m c) (hl : news.length = m * size) (hat : CAt w ad news) (h1 : ∀ u ∈ news, u.oneCell' = true)
    (h63 : n + m ≤ maxLen) (hbytes : (n + m) * bytes ≤ 140737488355328) (hbase : base ≤ w.heap.size)
    (h : ∀ v' w', w'.ownsRow base e size v' (n + m) (xs ++ news) → w.grownBy w' v.ownBlock → (v'.ownBlock = v.ownBlock ∨ v'.ownBlock = some w.heap.size) → wpList Tryz.prog ops Q rest (a.put o.dst v') w') : wpList Tryz.prog ops Q (o :: rest) a w := by
  obtain ⟨v', w', hrun, h2, h3, h4⟩ := cat_run w base t o.type e i z size bytes ht hi hz hsize hby hzs hsz v n xs hown ad m c news hl hat h1 h63 hbytes hbase
  refine wpList_plain hgd fun K hK => ?_
  unfold Oper.wp
  simp [execOp, ho, resolve, invoke, builtin, hs, hx, hrun, Result.andThen]
  exact hK _ _ (h v' w' h2 h3 h4)
/-- A literal's cells. -/
theorem cat_lit (w : World) (e : Nat) (cs : List Value) (vs : Array Value) (h : vs = cs.toArray) : CAt (w.alloc (.cells vs e)) (some ⟨w.heap.size, 0, none⟩) cs := by
  subst h
  refine fun _ => ⟨w.heap.size, 0, rfl, fun i hi => ?_⟩
  have hh : (w.alloc (.cells cs.toArray e)).heap[w.heap.size]? = some (.cells cs.toArray e (0, 0)) := heap_alloc_new w _
  rw [Nat.zero_add]
  unfold World.cell?
  simp only [hh]
  simp [hi]

/-- append, as a step of a region that draws. -/
theorem step_cat {ops : Array Oper} {o : Oper} {a : Act} {w : World} {K : Act → World → Prop} {Q : Exit → Act → World → Prop} {E : Prop} (hg : o.guard = none) (s x : Operand) (t : Nat)
    (ho : o.op = .call { callee := .builtin .append, args := #[s, x], argTypes := #[t, t] })
    (base e : Nat) (i : TypeInfo) (z : Value) (size bytes : Nat) (ht : Tryz.prog.underlying t = some (.slice e)) (hi : Tryz.prog.info? e = some i) (hz : i.zero = some z)
    (hsize : i.size = size) (hby : i.bytes = bytes) (hzs : z.cells.size = size) (hsz : 0 < size) (v : Value) (n : Nat) (xs : List Value) (hs : a.eval s = v) (hown : w.ownsRow base e size v n xs)
    (ad : Option Addr) (m c : Nat) (news : List Value) (hx : a.eval x = .slice ad m c) (hl : news.length = m * size) (hat : CAt w ad news) (h1 : ∀ u ∈ news, u.oneCell' = true)
    (h63 : n + m ≤ maxLen) (hbytes : (n + m) * bytes ≤ 140737488355328) (hbase : base ≤ w.heap.size)
    (hK : ∀ v' w', w'.ownsRow base e size v' (n + m) (xs ++ news) → w.grownBy w' v.ownBlock → (v'.ownBlock = v.ownBlock ∨ v'.ownBlock = some w.heap.size) → K (a.put o.dst v') w') :
    if Region.wanted o (yielded ops a.tmps) = true then Oper.wp Tryz.prog o a w K Q else E := by
  have hw : Region.wanted o (yielded ops a.tmps) = true := by simp [Region.wanted, hg]
  rw [if_pos hw]
  obtain ⟨v', w', hrun, h2, h3, h4⟩ := cat_run w base t o.type e i z size bytes ht hi hz hsize hby hzs hsz v n xs hown ad m c news hl hat h1 h63 hbytes hbase
  unfold Oper.wp
  simp [execOp, ho, resolve, invoke, builtin, hs, hx, hrun, Result.andThen]
  exact hK v' w' h2 h3 h4

theorem step_call {ops : Array Oper} {o : Oper} {a : Act} {w : World} {K : Act → World → Prop} {Q : Exit → Act → World → Prop} {E : Prop} (hg : o.guard = none) (f : FuncId) (args : Array Operand) (tys : Array TypeId)
    (ho : o.op = .call { callee := .value (.func f), args := args, argTypes := tys }) (fn : Func) (hf : Tryz.prog.funcs[f]? = some fn) (hn : (fn.name == "runtime.NumGoroutine") = false) (hbd : fn.body.isNone = false) (vals : Array Value) (hv : args.map a.eval = vals) {post : Ending → World → Prop} (hc : Calls Tryz.prog f vals w post)
    (hK : ∀ e w', post e w' → ∃ v, e = .returned v ∧ K (a.put o.dst v) w') :
    if Region.wanted o (yielded ops a.tmps) = true then Oper.wp Tryz.prog o a w K Q else E := by
  have hw : Region.wanted o (yielded ops a.tmps) = true := by simp [Region.wanted, hg]
  rw [if_pos hw]
  have he : (execOp a.eval o).run Tryz.prog w = .ok (.enter f vals) w := by
    subst hv
    have hn' : ¬ fn.name = "runtime.NumGoroutine" := by simpa using hn
    have hbd' : ¬ fn.body = none := by intro e; rw [e] at hbd; cases hbd
    simp [execOp, ho, resolve, invoke, Act.eval, Deferred.ofValue, callFunc, hf, hn', hbd']
  unfold Oper.wp
  rw [he, Oper.upon_enter]
  refine hc.mono ?_
  intro e w' h
  obtain ⟨v, rfl, hk⟩ := hK e w' h
  exact hk

end Go.Proofs.YtilncacmkfohdaaGreat.Pf

namespace Go.Proofs.YtilncacmkfohdaaGreat.Pf
open Go.RowKit

theorem hid {p : Prop} (h : p) : Hid p := h

def cc (x : Cut) : List Value := [.int .i64 x.1, .int .i64 x.2]

/-- These cuts lie behind a. -/
def SAt (w : World) (a : Option Addr) (C : List Cut) : Prop := CAt w a (C.flatMap cc)
def SOwn (w : World) (base : Nat) (v : Value) (C : List Cut) : Prop := w.ownsRow base 92 2 v C.length (C.flatMap cc)

theorem info36 : (Tryz.prog.info? 92).map (fun i => (i.zero, i.size, i.bytes)) = some (some (.agg #[.int .i64 0, .int .i64 0]), 2, 16) := by kernel_rfl

theorem cc_len (C : List Cut) : (C.flatMap cc).length = C.length * 2 := by
  induction C with
  | nil => rfl
  | cons q r ih => simp [cc, ih]; omega

theorem cc_get : ∀ (Q : List Cut) (i r : Nat) (hi : i < Q.length) (_ : r < 2), (Q.flatMap cc)[i * 2 + r]? = (cc Q[i])[r]?
  | [], i, r, hi, _ => by simp at hi
  | q :: t, 0, r, hi, hr => by
    simp only [List.flatMap_cons, Nat.zero_mul, Nat.zero_add, List.getElem_cons_zero]
    rw [List.getElem?_append_left (by simp [cc]; omega)]
  | q :: t, i + 1, r, hi, hr => by
    simp only [List.flatMap_cons, List.getElem_cons_succ]
    rw [List.getElem?_append_right (by simp [cc]; omega)]
    have := cc_get t i r (by simpa using hi) hr
    rw [← this]
    congr 1
    simp [cc]; omega

theorem cc_ne {R : List Cut} (h : 0 < R.length) : R.flatMap cc ≠ [] := by
  intro e
  have h1 := cc_len R
  rw [e] at h1
  simp at h1
  omega

theorem cc_one (Z : List Cut) : ∀ u ∈ Z.flatMap cc, u.oneCell' = true := by
  intro u hu
  obtain ⟨x, _, hx⟩ := List.mem_flatMap.1 hu
  simp [cc] at hx
  rcases hx with rfl | rfl <;> rfl

theorem SAt.place {w : World} {a : Option Addr} {C : List Cut} (h : SAt w a C) (h0 : 0 < C.length) : ∃ b o, a = some ⟨b, o, none⟩ := by
  obtain ⟨b, o, e, _⟩ := h (cc_ne h0)
  exact ⟨b, o, e⟩

theorem SAt.one {w : World} {b o : Nat} {C : List Cut} (h : SAt w (some ⟨b, o, none⟩) C) {i : Nat} (hi : i < C.length) :
    w.cell? ⟨b, o + i * 2, none⟩ = some (.int .i64 (tm C i)) ∧ w.cell? ⟨b, o + i * 2 + 1, none⟩ = some (.int .i64 (fr C i)) := by
  obtain ⟨b', o', e, hc⟩ := h (cc_ne (by omega))
  cases e
  have key : ∀ r (hr : r < 2), w.cell? ⟨b, o + (i * 2 + r), none⟩ = some ((cc C[i])[r]'(by simp [cc]; omega)) := fun r hr => by
    have hlt : i * 2 + r < (C.flatMap cc).length := by rw [cc_len]; omega
    rw [hc _ hlt]
    have := cc_get C i r hi hr
    rw [List.getElem?_eq_getElem hlt, List.getElem?_eq_getElem (by simp [cc]; omega)] at this
    exact this
  have k0 := key 0 (by omega)
  have k1 := key 1 (by omega)
  rw [← tm_eq hi, ← fr_eq hi]
  exact ⟨k0, k1⟩

theorem SAt.below {w w' : World} {a : Option Addr} {C : List Cut} (h : SAt w a C) (hb : Below w.heap.size w w') : SAt w' a C := CAt.below h hb
theorem SAt.kp {S : Nat → Prop} {w w' : World} {a : Option Addr} {C : List Cut} (h : SAt w a C) (hk : Kp S w w') (hn : ∀ x, a = some x → ¬ S x.block) : SAt w' a C := CAt.kp h hk hn
theorem SAt.nil (w : World) (a : Option Addr) : SAt w a [] := CAt.nil w a
theorem SAt.lt {w : World} {b o : Nat} {C : List Cut} (h : SAt w (some ⟨b, o, none⟩) C) (h0 : 0 < C.length) : b < w.heap.size := World.block_lt_of_cell? w _ (h.one h0).1

theorem SOwn.sat {w : World} {base n c : Nat} {a : Option Addr} {C : List Cut} (h : SOwn w base (.slice a n c) C) : SAt w a C := owns_cat h
theorem SOwn.below {w w' : World} {base : Nat} {v : Value} {C : List Cut} (h : SOwn w base v C) (hb : Below w.heap.size w w') : SOwn w' base v C := owns_below h hb
theorem SOwn.low {w : World} {base base' : Nat} {v : Value} {C : List Cut} (h : SOwn w base v C) (hb : base' ≤ base) : SOwn w base' v C := owns_low h hb
theorem SOwn.nil (w : World) (base : Nat) : SOwn w base (.slice none 0 0) [] := World.ownsRow_nil _ _ _ _

theorem SOwn.lit (w : World) (a b : Int) : SOwn (w.alloc (.cells #[.int .i64 a, .int .i64 b] 92)) w.heap.size (.slice (some ⟨w.heap.size, 0, none⟩) 1 1) [(a, b)] := by
  refine ⟨rfl, .inr ⟨w.heap.size, 1, #[.int .i64 a, .int .i64 b], rfl, Nat.le_refl _, heap_alloc_new w _, Nat.le_refl _, ?_, rfl, rfl⟩⟩
  unfold maxLen; omega

def isVB (n : Int) : Bool := decide (isV n)
def winB (a b : Int) : Bool := decide (winP a b)
def folB (a b c d : Int) : Bool := decide (a < c ∧ b ≠ d)

theorem two_new (w : World) (x y : Obj) : Below w.heap.size w ((w.alloc x).alloc y) := bnext (below_lit w x) (below_lit _ y)

theorem isvalue_any (n : Int) (w : World) : Calls Tryz.prog 43 #[.int .i64 n] w fun e w' => e = .returned (.bool (isVB n)) ∧ w' = w := by
  by_cases h1 : 0 ≤ n
  · by_cases h2 : n ≤ 1073741824
    · have hf := hid (show isVB n = true from decide_eq_true ⟨h1, h2⟩)
      have d1 : decide (0 ≤ n) = true := by simpa using h1
      have d2 : decide (n ≤ 1073741824) = true := by simpa using h2
      go_enter Tryz.func43, Tryz.ntmps43
      go_wp2
      go_ret
      rw [hf.out]; exact ⟨rfl, rfl⟩
    · have hf := hid (show isVB n = false from decide_eq_false fun h => h2 h.2)
      have d1 : decide (0 ≤ n) = true := by simpa using h1
      have d2 : decide (n ≤ 1073741824) = false := by simpa using h2
      go_enter Tryz.func43, Tryz.ntmps43
      go_wp2
      go_ret
      rw [hf.out]; exact ⟨rfl, rfl⟩
  · have hf := hid (show isVB n = false from decide_eq_false fun h => h1 h.1)
    have d1 : decide (0 ≤ n) = false := by simpa using h1
    go_enter Tryz.func43, Tryz.ntmps43
    go_wp2
    go_ret
    rw [hf.out]; exact ⟨rfl, rfl⟩

theorem follows_any (a b c d : Int) (w : World) : Calls Tryz.prog 68 #[.agg #[.int .i64 a, .int .i64 b], .agg #[.int .i64 c, .int .i64 d]] w fun e w' => e = .returned (.bool (folB a b c d)) ∧ Below w.heap.size w w' := by
  by_cases h1 : a < c
  · have d1 : decide (a < c) = true := by simpa using h1
    by_cases h2 : b = d
    · have hf := hid (show folB a b c d = false from decide_eq_false fun h => h.2 h2)
      subst h2
      go_enter Tryz.func68, Tryz.ntmps68
      go_wp2
      go_ret
      rw [hf.out]; exact ⟨rfl, two_new _ _ _⟩
    · have hf := hid (show folB a b c d = true from decide_eq_true ⟨h1, h2⟩)
      have d2 : (b != d) = true := by simpa using h2
      go_enter Tryz.func68, Tryz.ntmps68
      go_wp2
      go_ret
      rw [hf.out]; exact ⟨rfl, two_new _ _ _⟩
  · have hf := hid (show folB a b c d = false from decide_eq_false fun h => h1 h.1)
    have d1 : decide (a < c) = false := by simpa using h1
    go_enter Tryz.func68, Tryz.ntmps68
    go_wp2
    go_ret
    rw [hf.out]; exact ⟨rfl, two_new _ _ _⟩

end Go.Proofs.YtilncacmkfohdaaGreat.Pf

namespace Go.Proofs.YtilncacmkfohdaaGreat.Pf
open Go.RowKit

abbrev OkAt (C : List Cut) (i : Nat) : Prop := tm C i ≤ 2199023255552 ∧ (0 ≤ fr C i ∧ fr C i ≤ 1073741824) ∧ (0 < i → tm C (i - 1) < tm C i ∧ fr C (i - 1) ≠ fr C i)

def OkTo (C : List Cut) (j : Nat) : Prop := ∀ i, i < j → OkAt C i

theorem OkTo.next {C : List Cut} {j : Nat} (h : OkTo C j) (k : OkAt C j) : OkTo C (j + 1) := by
  intro i hi
  rcases Nat.lt_or_ge i j with h1 | h1
  · exact h i h1
  · have : i = j := by omega
    subst this; exact k

theorem right_bad {C : List Cut} {j : Nat} (hj : j < C.length) (h : ¬ OkAt C j) : rightB C = false := rightB_false fun k => h (k.2.2.2 j hj)

theorem below_drewN {w w' : World} {base : Nat} (h : Below base w w') (n : Nat) : Below base w (w'.drewN n) := h.trans ⟨rfl, rfl, rfl, Nat.le_refl _, fun _ _ => rfl⟩

theorem isVB_true {n : Int} (h1 : 0 ≤ n) (h2 : n ≤ 1073741824) : isVB n = true := decide_eq_true ⟨h1, h2⟩
theorem isVB_iff {n : Int} : isVB n = true ↔ isV n := by simp [isVB]
theorem isVB_no {n : Int} (h : ¬ isV n) : isVB n = false := decide_eq_false h

theorem stay {w w' : World} {p : Addr} {v : Value} (hb : Below w.heap.size w w') (h : w.cell? p = some v) : w'.cell? p = some v := by
  rw [hb.cell (World.block_lt_of_cell? w p h)]; exact h

theorem drew_below (w : World) : Below w.heap.size w w.drew := (Below.refl _ _).drew

set_option maxRecDepth 100000 in
set_option maxHeartbeats 1000000 in
theorem right_any (a : Option Addr) (n c : Nat) (C : List Cut) (w : World) (hn : C.length = n) (hl : n ≤ 4611686018427387904) (hat : SAt w a C) :
    Calls Tryz.prog 44 #[.slice a n c] w fun e w' => e = .returned (.bool (rightB C)) ∧ Below w.heap.size w w' := by
  replace hn := hid hn
  replace hat := hid hat
  rcases Nat.eq_zero_or_pos n with h0 | h0
  · subst h0
    have hf := hid (show rightB C = false from rightB_false fun h => by have := h.1; rw [hn.out] at this; omega)
    go_enter Tryz.func44, Tryz.ntmps44
    go_wp2
    go_ret
    rw [hf.out]; exact ⟨rfl, Below.refl _ _⟩
  · have d0 : ((n : Int) == 0) = false := by simp; omega
    by_cases h1 : 4096 < n
    · have hf := hid (show rightB C = false from rightB_false fun h => by have := h.2.1; rw [hn.out] at this; omega)
      have d1 : decide (4096 < n) = true := by simpa using h1
      go_enter Tryz.func44, Tryz.ntmps44
      go_wp2
      go_ret
      rw [hf.out]; exact ⟨rfl, Below.refl _ _⟩
    · have d1 : decide (4096 < n) = false := by simpa using h1
      obtain ⟨b, o, e⟩ := hat.out.place (by rw [hn.out]; exact h0)
      subst e
      have x0 := (hat.out.one (show 0 < C.length by rw [hn.out]; exact h0)).1
      rw [Nat.zero_mul, Nat.add_zero] at x0
      by_cases h2 : tm C 0 = 0
      · rw [h2] at x0
        go_enter Tryz.func44, Tryz.ntmps44
        go_wp2_with fail
        go_loopw [21] (fun i wr => ∃ j : Nat, j ≤ n ∧ i = .int .i64 (j : Int) ∧ Hid (OkTo C j) ∧ Below w.heap.size w wr) (fun i _ => n - (intOf i).toNat)
        case atStart => exact ⟨0, Nat.zero_le _, rfl, hid (fun i hi => absurd hi (by omega)), Below.refl _ _⟩
        case round =>
          obtain ⟨j, hj, rfl, hok, hb⟩ := hrel
          by_cases hlt : j < n
          · have hjL : j < C.length := by rw [hn.out]; exact hlt
            obtain ⟨y0, y1⟩ := (hat.out.below hb).one hjL
            by_cases h3 : tm C j ≤ 2199023255552
            · have d3 : decide (2199023255552 < tm C j) = false := by simpa using h3
              have kV := fun w => isvalue_any (fr C j) w
              by_cases h4 : isV (fr C j)
              · rw [isVB_iff.2 h4] at kV
                rcases Nat.eq_zero_or_pos j with h5 | h5
                · subst h5
                  have hok2 := hid (hok.out.next (j := 0) ⟨h3, h4, fun h => absurd h (by omega)⟩)
                  rw [Nat.zero_mul, Nat.add_zero] at y0 y1
                  rw [h2] at y0
                  clear d3 h3 h4
                  replace h2 := hid h2
                  generalize fr C 0 = Y at *
                  go_wp2_with fail
                  refine (kV _).mono ?_
                  rintro e w1 ⟨rfl, rfl⟩
                  go_wp2_with fail
                  go_quiet (fail)
                  have hb2 := below_drewN hb nq
                  generalize w1.drewN nq = wq at *
                  go_wp2_with fail
                  go_roundw
                  case rel => exact ⟨1, by omega, by go_num, hok2, hb2⟩
                  case measure => simp [intOf]; omega
                · obtain ⟨p, rfl⟩ : ∃ p, j = p + 1 := ⟨j - 1, by omega⟩
                  obtain ⟨z0, z1⟩ := (hat.out.below hb).one (show p < C.length by omega)
                  have kF := fun w => follows_any (tm C p) (fr C p) (tm C (p + 1)) (fr C (p + 1)) w
                  by_cases h6 : tm C p < tm C (p + 1) ∧ fr C p ≠ fr C (p + 1)
                  · have hok2 := hid (hok.out.next (j := p + 1) ⟨h3, h4, fun _ => h6⟩)
                    rw [show folB (tm C p) (fr C p) (tm C (p + 1)) (fr C (p + 1)) = true from decide_eq_true h6] at kF
                    have d5 : decide ((0 : Int) < (p : Int) + 1) = true := decide_eq_true (by omega)
                    clear h3 h4 h6
                    replace h2 := hid h2
                    have hpw : IntKind.i64.wrap ((p : Int) + 1 - 1) = (p : Int) := by rw [IntKind.wrap_i64]; omega
                    have hpv : IntKind.i64.wrap (p : Int) = (p : Int) := by rw [IntKind.wrap_i64]; omega
                    have hpn : p < n := by omega
                    generalize tm C (p + 1) = X at *
                    generalize fr C (p + 1) = Y at *
                    generalize tm C p = X0 at *
                    generalize fr C p = Y0 at *
                    go_wp2_with fail
                    refine (kV _).mono ?_
                    rintro e w1 ⟨rfl, rfl⟩
                    go_wp2_with fail
                    go_region_held (fun w' : World => w'.cell? ⟨b, o + p * 2, none⟩ = some (.int .i64 X0) ∧ w'.cell? ⟨b, o + p * 2 + 1, none⟩ = some (.int .i64 Y0) ∧ w'.cell? ⟨b, o + (p + 1) * 2, none⟩ = some (.int .i64 X) ∧ w'.cell? ⟨b, o + (p + 1) * 2 + 1, none⟩ = some (.int .i64 Y))
                      (first | exact ⟨stay hb4 z0, stay hb4 z1, stay hb4 y0, stay hb4 y1⟩ | exact ⟨z0, z1, y0, y1⟩)
                      (first | (go_at_call 68; refine (kF _).mono ?_; rintro e w4 ⟨rfl, hb4⟩))
                    all_goals
                      have hb5 := bnext hb (bnext (drew_below w1) hb4)
                      go_wp2_with fail
                      go_roundw
                      case rel => exact ⟨p + 1 + 1, by omega, by go_num, hok2, hb5⟩
                      case measure => simp [intOf]; omega
                  · have hf := hid (right_bad hjL fun h => h6 (h.2.2 (by omega)))
                    rw [show folB (tm C p) (fr C p) (tm C (p + 1)) (fr C (p + 1)) = false from decide_eq_false h6] at kF
                    have d5 : decide ((0 : Int) < (p : Int) + 1) = true := decide_eq_true (by omega)
                    clear h3 h4 h6
                    replace h2 := hid h2
                    have hpw : IntKind.i64.wrap ((p : Int) + 1 - 1) = (p : Int) := by rw [IntKind.wrap_i64]; omega
                    have hpv : IntKind.i64.wrap (p : Int) = (p : Int) := by rw [IntKind.wrap_i64]; omega
                    have hpn : p < n := by omega
                    generalize tm C (p + 1) = X at *
                    generalize fr C (p + 1) = Y at *
                    generalize tm C p = X0 at *
                    generalize fr C p = Y0 at *
                    go_wp2_with fail
                    refine (kV _).mono ?_
                    rintro e w1 ⟨rfl, rfl⟩
                    go_wp2_with fail
                    go_region_held (fun w' : World => w'.cell? ⟨b, o + p * 2, none⟩ = some (.int .i64 X0) ∧ w'.cell? ⟨b, o + p * 2 + 1, none⟩ = some (.int .i64 Y0) ∧ w'.cell? ⟨b, o + (p + 1) * 2, none⟩ = some (.int .i64 X) ∧ w'.cell? ⟨b, o + (p + 1) * 2 + 1, none⟩ = some (.int .i64 Y))
                      (first | exact ⟨stay hb4 z0, stay hb4 z1, stay hb4 y0, stay hb4 y1⟩ | exact ⟨z0, z1, y0, y1⟩)
                      (first | (go_at_call 68; refine (kF _).mono ?_; rintro e w4 ⟨rfl, hb4⟩))
                    all_goals
                      have hb5 := bnext hb (bnext (drew_below w1) hb4)
                      go_wp2
                      go_ret
                      rw [hf.out]; exact ⟨rfl, hb5⟩
              · have hf := hid (right_bad hjL fun h => h4 h.2.1)
                rw [isVB_no h4] at kV
                replace h4 := hid h4
                generalize tm C j = X at *
                generalize fr C j = Y at *
                go_wp2_with fail
                refine (kV _).mono ?_
                rintro e w1 ⟨rfl, rfl⟩
                go_wp2
                go_ret
                rw [hf.out]; exact ⟨rfl, hb⟩
            · have hf := hid (right_bad hjL fun h => h3 h.1)
              have d3 : decide (2199023255552 < tm C j) = true := by simp; omega
              generalize tm C j = X at *
              go_wp2
              go_ret
              rw [hf.out]; exact ⟨rfl, hb⟩
          · have hje : j = n := by omega
            subst hje
            have hf := hid (show rightB C = true from rightB_iff.2 ⟨by rw [hn.out]; exact h0, by rw [hn.out]; omega, h2, by rw [hn.out]; exact hok.out⟩)
            go_wp2
            go_ret
            rw [hf.out]; exact ⟨rfl, hb⟩
      · have hf := hid (show rightB C = false from rightB_false fun h => h2 h.2.2.1)
        have d2 : (tm C 0 != 0) = true := by simpa using h2
        generalize tm C 0 = T at *
        go_enter Tryz.func44, Tryz.ntmps44
        go_wp2
        go_ret
        rw [hf.out]; exact ⟨rfl, Below.refl _ _⟩

end Go.Proofs.YtilncacmkfohdaaGreat.Pf

namespace Go.Proofs.YtilncacmkfohdaaGreat.Pf
open Go.RowKit

def ptr (g : Nat) : Value := .pointer (some ⟨g, 0, none⟩)

theorem en_in {C : List Cut} {k : Nat} (h : k + 1 < C.length) : en C k = tm C (k + 1) := by unfold en; rw [if_pos h]
theorem en_out {C : List Cut} {k : Nat} (h : ¬ k + 1 < C.length) : en C k = 9223372036854775807 := by unfold en; rw [if_neg h]

end Go.Proofs.YtilncacmkfohdaaGreat.Pf

namespace Go.Proofs.YtilncacmkfohdaaGreat.Pf
open Go.RowKit

/-- A block of one cell. -/
def One (w : World) (g : Nat) (v : Value) (t : Nat) : Prop := w.heap[g]? = some (.cells #[v] t (0, 0))

theorem One.cell {w : World} {g t : Nat} {v : Value} (h : One w g v t) : w.cell? ⟨g, 0, none⟩ = some v := cell_of_one h
theorem One.free {w : World} {g t : Nat} {v : Value} (h : One w g v t) : w.frozen? ⟨g, 0, none⟩ = false := free_of_one h
theorem One.set {w : World} {g t : Nat} {v : Value} (h : One w g v t) (u : Value) : One (w.setCell ⟨g, 0, none⟩ u) g u t := one_setCell h
theorem One.new (w : World) (v : Value) (t : Nat) : One (w.alloc (.cells #[v] t)) w.heap.size v t := heap_alloc_new w _
theorem One.lt {w : World} {g t : Nat} {v : Value} (h : One w g v t) : g < w.heap.size := (Array.getElem?_eq_some_iff.1 h).1
theorem One.below {w w' : World} {g t : Nat} {v : Value} (h : One w g v t) (hb : Below w.heap.size w w') : One w' g v t := by
  unfold One; rw [hb.block g h.lt]; exact h
theorem One.kp {S : Nat → Prop} {w w' : World} {g t : Nat} {v : Value} (h : One w g v t) (hk : Kp S w w') (hn : ¬ S g) : One w' g v t := by
  unfold One; rw [hk.block g h.lt hn]; exact h
theorem One.drew {w : World} {g t : Nat} {v : Value} (h : One w g v t) : One w.drew g v t := h

theorem kp_one {w : World} {g : Nat} (u : Value) : Kp (fun k => k = g) w (w.setCell ⟨g, 0, none⟩ u) := Kp.setCell (S := fun k => k = g) (p := ⟨g, 0, none⟩) (Kp.refl _ _) rfl u

def flatA (n : Int) : List Cut × Int := if isV n then ([(0, n)], 0) else ([], 2)

theorem flat_any (n : Int) (w : World) : Calls Tryz.prog 18 #[.int .i64 n] w fun e w' => ∃ a c, e = .returned (.tuple #[.slice a (flatA n).1.length c, .int .i64 (flatA n).2]) ∧ SOwn w' w.heap.size (.slice a (flatA n).1.length c) (flatA n).1 ∧ Below w.heap.size w w' := by
  by_cases h : isV n
  · have hf := hid (show flatA n = ([(0, n)], 0) from if_pos h)
    have kV := isvalue_any n w
    rw [isVB_iff.2 h] at kV
    go_enter Tryz.func18, Tryz.ntmps18
    go_wp2_with fail
    refine kV.mono ?_
    rintro e w1 ⟨rfl, rfl⟩
    go_wp2
    go_ret2
    rw [hf.out]
    exact ⟨_, _, rfl, SOwn.lit _ _ _, below_lit _ _⟩
  · have hf := hid (show flatA n = ([], 2) from if_neg h)
    have kV := isvalue_any n w
    rw [isVB_no h] at kV
    go_enter Tryz.func18, Tryz.ntmps18
    go_wp2_with fail
    refine kV.mono ?_
    rintro e w1 ⟨rfl, rfl⟩
    go_wp2
    go_ret2
    rw [hf.out]
    exact ⟨_, _, rfl, SOwn.nil _ _, Below.refl _ _⟩

end Go.Proofs.YtilncacmkfohdaaGreat.Pf

namespace Go.Proofs.YtilncacmkfohdaaGreat.Pf
open Go.RowKit

/-- What Least tells. -/
abbrev lsP (C : List Cut) (a b : Int) : Prop := RightP C ∧ winP a b
def lsA (C : List Cut) (a b : Int) : Int × Int := if lsP C a b then (lsT C a b C.length, 0) else (0, 2)

theorem winB_iff {a b : Int} : winB a b = true ↔ winP a b := by simp [winB]
theorem winB_no {a b : Int} (h : ¬ winP a b) : winB a b = false := decide_eq_false h

end Go.Proofs.YtilncacmkfohdaaGreat.Pf

namespace Go.Proofs.YtilncacmkfohdaaGreat.Pf
open Go.RowKit

theorem block_ne {w : World} {g k : Nat} {c d : Array Value} {t u : TypeId} {f m : Nat × Nat} (h : w.heap[g]? = some (.cells c t f)) (hk : w.heap[k]? = some (.cells d u m)) (hne : t ≠ u) : g ≠ k := by
  rintro rfl
  rw [h] at hk
  simp at hk
  exact hne hk.2.1

theorem One.off {w : World} {g t k u : Nat} {v x : Value} (h : One w g v t) (k' : One w k x u) (hne : t ≠ u) : g ≠ k := block_ne h k' hne

theorem one_row {w : World} {g t base e size n : Nat} {v x : Value} {xs : List Value} (h : One w g x t) (hr : w.ownsRow base e size v n xs) (he : t ≠ e) : v.ownBlock ≠ some g := by
  intro ev
  rcases hr.2 with ⟨hv, _⟩ | ⟨g', cap, cur, hv, _, hg, _⟩
  · rw [hv] at ev; cases ev
  · rw [hv] at ev
    have e1 : g' = g := Option.some.inj ev
    subst e1
    exact block_ne h hg he rfl

/-- What may turn. -/
def Ts (go gs rb : Nat) : Nat → Prop := fun k => k = go ∨ k = gs ∨ rb ≤ k

theorem put_more {o : List Cut} {x v : Int} (h : o.length = 0 ∨ lastF o ≠ v) : putL o x v = o ++ [(x, v)] := if_pos h
theorem put_same {o : List Cut} {x v : Int} (h : ¬ (o.length = 0 ∨ lastF o ≠ v)) : putL o x v = o := if_neg h
theorem cc_snoc (o : List Cut) (x v : Int) : (o ++ [(x, v)]).flatMap cc = o.flatMap cc ++ [.int .i64 x, .int .i64 v] := by simp [cc]
theorem two_one (x v : Int) : ∀ u ∈ [Value.int .i64 x, .int .i64 v], u.oneCell' = true := by
  intro u hu; simp at hu; rcases hu with rfl | rfl <;> rfl

end Go.Proofs.YtilncacmkfohdaaGreat.Pf

namespace Go.Proofs.YtilncacmkfohdaaGreat.Pf
open Go.RowKit
set_option linter.unusedVariables false

def s1 (b a f : Int) (s : List Cut × Bool) : List Cut × Bool := if b < a then putS s b f else s
def s2 (b e a c f n : Int) (s : List Cut × Bool) : List Cut × Bool := if b < c ∧ a < e then putS s (max b a) (f + n) else s
def s3 (b e c f : Int) (s : List Cut × Bool) : List Cut × Bool := if c < e then putS s (max b c) f else s

end Go.Proofs.YtilncacmkfohdaaGreat.Pf

namespace Go.Proofs.YtilncacmkfohdaaGreat.Pf
open Go.RowKit

theorem three_new (w : World) (x y z : Obj) : Below w.heap.size w (((w.alloc x).alloc y).alloc z) := bnext (two_new w x y) (below_lit _ z)

theorem size_alloc (w : World) (x : Obj) : (w.alloc x).heap.size = w.heap.size + 1 := by show (w.heap.push _).size = _; rw [Array.size_push]

end Go.Proofs.YtilncacmkfohdaaGreat.Pf

namespace Go.Proofs.YtilncacmkfohdaaGreat.Pf
open Go.RowKit

end Go.Proofs.YtilncacmkfohdaaGreat.Pf
