/- Step functions, plain: values, cuts that rise, what a list of cuts describes. -/
import Derived.Test.YticlpjpbjgfgmaaRows
namespace Go.Proofs.Yticlpjpbjgfgmaa

abbrev Cut := Int × Int

/-- The value of cuts at t, where it is v ahead of them all. -/
def valI (v : Int) (C : List Cut) (t : Int) : Int := C.foldl (fun v c => if c.1 ≤ t then c.2 else v) v
def val (C : List Cut) (t : Int) : Int := valI 0 C t

def tm (C : List Cut) (i : Nat) : Int := (C.getD i (0, 0)).1
def fr (C : List Cut) (i : Nat) : Int := (C.getD i (0, 0)).2

theorem tm_eq {C : List Cut} {i : Nat} (h : i < C.length) : C[i].1 = tm C i := by simp [tm, List.getD, h]
theorem fr_eq {C : List Cut} {i : Nat} (h : i < C.length) : C[i].2 = fr C i := by simp [fr, List.getD, h]

theorem valI_append (v : Int) (A B : List Cut) (t : Int) : valI v (A ++ B) t = valI (valI v A t) B t := by unfold valI; rw [List.foldl_append]
theorem valI_cons (v : Int) (c : Cut) (B : List Cut) (t : Int) : valI v (c :: B) t = valI (if c.1 ≤ t then c.2 else v) B t := rfl
theorem val_snoc (A : List Cut) (c : Cut) (t : Int) : val (A ++ [c]) t = if c.1 ≤ t then c.2 else val A t := by unfold val; rw [valI_append]; rfl

theorem take_more {C : List Cut} {k : Nat} (h : k < C.length) : C.take (k + 1) = C.take k ++ [C[k]] := by rw [List.take_add_one, List.getElem?_eq_getElem h]; rfl

theorem val_take {C : List Cut} {k : Nat} (h : k < C.length) (t : Int) : val (C.take (k + 1)) t = if tm C k ≤ t then fr C k else val (C.take k) t := by
  rw [take_more h, val_snoc, tm_eq h, fr_eq h]

/-- Times rise, and no two next to each other are the same. -/
def Rise (C : List Cut) : Prop := ∀ i, i + 1 < C.length → tm C i < tm C (i + 1) ∧ fr C i ≠ fr C (i + 1)

theorem Rise.lt {C : List Cut} (h : Rise C) {i j : Nat} (hij : i < j) (hj : j < C.length) : tm C i < tm C j := by
  induction j with
  | zero => omega
  | succ j ih =>
    have h1 := (h j hj).1
    rcases Nat.lt_or_ge i j with h2 | h2
    · have := ih h2 (by omega); omega
    · have : i = j := by omega
      subst this; exact h1

/-- t lies in the step k. -/
def In (C : List Cut) (k : Nat) (t : Int) : Prop := k < C.length ∧ tm C k ≤ t ∧ (k + 1 < C.length → t < tm C (k + 1))

theorem val_in {C : List Cut} (h : Rise C) {k : Nat} {t : Int} (hk : In C k t) : val C t = fr C k := by
  obtain ⟨h1, h2, h3⟩ := hk
  have key : ∀ d, k + 1 + d ≤ C.length → val (C.take (k + 1 + d)) t = fr C k := by
    intro d
    induction d with
    | zero => intro _; rw [Nat.add_zero, val_take h1, if_pos h2]
    | succ d ih =>
      intro hd
      have hlt : k + 1 + d < C.length := by omega
      rw [← Nat.add_assoc, val_take hlt, if_neg, ih (by omega)]
      have h4 := h3 (by omega)
      rcases Nat.eq_zero_or_pos d with h5 | h5
      · subst h5; simpa using h4
      · have := h.lt (i := k + 1) (j := k + 1 + d) (by omega) hlt
        omega
  have := key (C.length - (k + 1)) (by omega)
  rw [show k + 1 + (C.length - (k + 1)) = C.length by omega, List.take_length] at this
  exact this

theorem find {C : List Cut} (h0 : 0 < C.length) (hz : tm C 0 = 0) {t : Int} (ht : 0 ≤ t) : ∃ k, In C k t := by
  have key : ∀ m, m ≤ C.length → (∀ i, i < m → tm C i ≤ t) ∨ ∃ k, In C k t := by
    intro m
    induction m with
    | zero => intro _; exact .inl (fun i hi => absurd hi (by omega))
    | succ m ih =>
      intro hm
      rcases ih (by omega) with h | h
      · rcases Int.lt_or_le t (tm C m) with h1 | h1
        · have hm0 : 0 < m := by
            rcases Nat.eq_zero_or_pos m with e | e
            · subst e; omega
            · exact e
          refine .inr ⟨m - 1, by omega, h _ (by omega), fun _ => ?_⟩
          rw [show m - 1 + 1 = m by omega]; exact h1
        · refine .inl fun i hi => ?_
          rcases Nat.lt_or_ge i m with h2 | h2
          · exact h i h2
          · have : i = m := by omega
            subst this; exact h1
      · exact .inr h
  rcases key C.length (Nat.le_refl _) with h | h
  · exact ⟨C.length - 1, by omega, h _ (by omega), fun h2 => absurd h2 (by omega)⟩
  · exact h

theorem in_begin {C : List Cut} (h : Rise C) {k : Nat} (hk : k < C.length) : In C k (tm C k) := ⟨hk, Int.le_refl _, fun h1 => (h k h1).1⟩

/-- A right step function. -/
abbrev RightP (C : List Cut) : Prop := 0 < C.length ∧ C.length ≤ 4096 ∧ tm C 0 = 0 ∧ ∀ i, i < C.length → tm C i ≤ 2199023255552 ∧ (0 ≤ fr C i ∧ fr C i ≤ 1073741824) ∧ (0 < i → tm C (i - 1) < tm C i ∧ fr C (i - 1) ≠ fr C i)

def rightB (C : List Cut) : Bool := decide (RightP C)

theorem rightB_iff {C : List Cut} : rightB C = true ↔ RightP C := by simp [rightB]
theorem rightB_false {C : List Cut} (h : ¬ RightP C) : rightB C = false := by simp only [rightB, decide_eq_false_iff_not]; exact h

theorem RightP.rise {C : List Cut} (h : RightP C) : Rise C := fun i hi => by
  have := (h.2.2.2 (i + 1) hi).2.2 (by omega)
  simpa using this

theorem RightP.tm_nonneg {C : List Cut} (h : RightP C) {i : Nat} (hi : i < C.length) : 0 ≤ tm C i := by
  rcases Nat.eq_zero_or_pos i with e | e
  · subst e; rw [h.2.2.1]; omega
  · have := h.rise.lt e hi; rw [h.2.2.1] at this; omega

theorem RightP.val_bd {C : List Cut} (h : RightP C) {t : Int} (ht : 0 ≤ t) : 0 ≤ val C t ∧ val C t ≤ 1073741824 := by
  obtain ⟨k, hk⟩ := find h.1 h.2.2.1 ht
  rw [val_in h.rise hk]
  exact (h.2.2.2 k hk.1).2.1

/-- When step k ends. -/
def en (C : List Cut) (k : Nat) : Int := if k + 1 < C.length then tm C (k + 1) else 9223372036854775807

theorem in_of {C : List Cut} {k : Nat} {t : Int} (hk : k < C.length) (h1 : tm C k ≤ t) (h2 : t < en C k) : In C k t := by
  refine ⟨hk, h1, fun h => ?_⟩
  unfold en at h2
  rw [if_pos h] at h2
  exact h2

theorem in_en {C : List Cut} {k : Nat} {t : Int} (h : In C k t) (ht : t < 9223372036854775807) : t < en C k := by
  unfold en
  split
  · rename_i h1; exact h.2.2 h1
  · exact ht

theorem RightP.tm_en {C : List Cut} (h : RightP C) {k : Nat} (hk : k < C.length) : tm C k < en C k := by
  refine in_en (in_begin h.rise hk) ?_
  have := (h.2.2.2 k hk).1
  omega

/-- Only one step holds t. -/
theorem in_uniq {C : List Cut} (h : Rise C) {i k : Nat} {t : Int} (hi : In C i t) (hk : In C k t) : i = k := by
  rcases Nat.lt_trichotomy i k with h1 | h1 | h1
  · have h2 := hi.2.2 (by have := hk.1; omega)
    rcases Nat.eq_or_lt_of_le (show i + 1 ≤ k by omega) with e | e
    · have := hk.2.1; rw [← e] at this; omega
    · have := h.lt e hk.1; have := hk.2.1; omega
  · exact h1
  · have h2 := hk.2.2 (by have := hi.1; omega)
    rcases Nat.eq_or_lt_of_le (show k + 1 ≤ i by omega) with e | e
    · have := hi.2.1; rw [← e] at this; omega
    · have := h.lt e hi.1; have := hi.2.1; omega

/-- The value at t, as it is gathered step by step. -/
def avT (C : List Cut) (t : Int) : Nat → Int
  | 0 => 0
  | k + 1 => if tm C k ≤ t ∧ t < en C k then fr C k else avT C t k

theorem av_val {C : List Cut} (h : RightP C) {t : Int} (h0 : 0 ≤ t) (h1 : t ≤ 2199023255552) : avT C t C.length = val C t := by
  obtain ⟨K, hK⟩ := find h.1 h.2.2.1 h0
  rw [val_in h.rise hK]
  have key : ∀ d, K + 1 + d ≤ C.length → avT C t (K + 1 + d) = fr C K := by
    intro d
    induction d with
    | zero => intro _; exact if_pos ⟨hK.2.1, in_en hK (by omega)⟩
    | succ d ih =>
      intro hd
      show (if tm C (K + 1 + d) ≤ t ∧ t < en C (K + 1 + d) then fr C (K + 1 + d) else avT C t (K + 1 + d)) = _
      rw [if_neg, ih (by omega)]
      rintro ⟨h2, h3⟩
      have := in_uniq h.rise hK (in_of (by omega) h2 h3)
      omega
  have := key (C.length - (K + 1)) (by have := hK.1; omega)
  rw [show K + 1 + (C.length - (K + 1)) = C.length by have := hK.1; omega] at this
  exact this

/-- v is the least value from a on, below b. -/
def IsLeast (C : List Cut) (a b v : Int) : Prop := (∀ t, a ≤ t → t < b → v ≤ val C t) ∧ ∃ t, a ≤ t ∧ t < b ∧ val C t = v

theorem IsLeast.uniq {C : List Cut} {a b u v : Int} (h : IsLeast C a b u) (k : IsLeast C a b v) : u = v := by
  obtain ⟨h1, t, h2, h3, h4⟩ := h
  obtain ⟨k1, s, k2, k3, k4⟩ := k
  have := h1 s k2 k3
  have := k1 t h2 h3
  omega

def lsT (C : List Cut) (a b : Int) : Nat → Int
  | 0 => 1073741824
  | k + 1 => if tm C k < b ∧ a < en C k then min (lsT C a b k) (fr C k) else lsT C a b k

theorem lsT_succ (C : List Cut) (a b : Int) (k : Nat) : lsT C a b (k + 1) = if tm C k < b ∧ a < en C k then min (lsT C a b k) (fr C k) else lsT C a b k := rfl

theorem lsT_mono (C : List Cut) (a b : Int) (k d : Nat) : lsT C a b (k + d) ≤ lsT C a b k := by
  induction d with
  | zero => exact Int.le_refl _
  | succ d ih =>
    have : lsT C a b (k + d + 1) ≤ lsT C a b (k + d) := by
      rw [lsT_succ]
      split
      · exact Int.min_le_left _ _
      · exact Int.le_refl _
    rw [← Nat.add_assoc]
    omega

theorem ls_least {C : List Cut} (h : RightP C) {a b : Int} (h0 : 0 ≤ a) (h1 : a < b) (h2 : b ≤ 2199023255552) : IsLeast C a b (lsT C a b C.length) := by
  have low : ∀ t, a ≤ t → t < b → lsT C a b C.length ≤ val C t := by
    intro t ht1 ht2
    obtain ⟨K, hK⟩ := find h.1 h.2.2.1 (show 0 ≤ t by omega)
    rw [val_in h.rise hK]
    have hm := lsT_mono C a b (K + 1) (C.length - (K + 1))
    rw [show K + 1 + (C.length - (K + 1)) = C.length by have := hK.1; omega] at hm
    have : lsT C a b (K + 1) ≤ fr C K := by
      rw [lsT_succ, if_pos ⟨by have := hK.2.1; omega, by have := in_en hK (by omega); omega⟩]
      exact Int.min_le_right _ _
    omega
  refine ⟨low, ?_⟩
  have key : ∀ k, k ≤ C.length → lsT C a b k = 1073741824 ∨ ∃ t, a ≤ t ∧ t < b ∧ val C t = lsT C a b k := by
    intro k
    induction k with
    | zero => intro _; exact .inl rfl
    | succ k ih =>
      intro hk
      rw [lsT_succ]
      split
      · rename_i hc
        rcases Int.le_total (lsT C a b k) (fr C k) with h3 | h3
        · rw [Int.min_eq_left h3]; exact ih (by omega)
        · rw [Int.min_eq_right h3]
          refine .inr ⟨max a (tm C k), by omega, by omega, ?_⟩
          have := h.tm_en (show k < C.length by omega)
          exact val_in h.rise (in_of (by omega) (by omega) (by omega))
      · exact ih (by omega)
  rcases key C.length (Nat.le_refl _) with h3 | h3
  · refine ⟨a, Int.le_refl _, h1, ?_⟩
    have h4 := low a (Int.le_refl _) h1
    have h5 := (h.val_bd h0).2
    omega
  · exact h3

/-- The least value as the document has it gathered. -/
def rlT (C : List Cut) (a b : Int) : Nat → Int
  | 0 => val C a
  | k + 1 => if a < tm C k ∧ tm C k < b ∧ fr C k < rlT C a b k then fr C k else rlT C a b k

theorem rlT_succ (C : List Cut) (a b : Int) (k : Nat) : rlT C a b (k + 1) = if a < tm C k ∧ tm C k < b ∧ fr C k < rlT C a b k then fr C k else rlT C a b k := rfl

theorem rlT_mono (C : List Cut) (a b : Int) (k d : Nat) : rlT C a b (k + d) ≤ rlT C a b k := by
  induction d with
  | zero => exact Int.le_refl _
  | succ d ih =>
    have : rlT C a b (k + d + 1) ≤ rlT C a b (k + d) := by
      rw [rlT_succ]
      split <;> omega
    rw [← Nat.add_assoc]
    omega

theorem rl_least {C : List Cut} (h : RightP C) {a b : Int} (h0 : 0 ≤ a) (h1 : a < b) : IsLeast C a b (rlT C a b C.length) := by
  refine ⟨?_, ?_⟩
  · intro t ht1 ht2
    obtain ⟨K, hK⟩ := find h.1 h.2.2.1 (show 0 ≤ t by omega)
    have e := val_in h.rise hK
    rcases Int.lt_or_le a (tm C K) with h3 | h3
    · rw [e]
      have hm := rlT_mono C a b (K + 1) (C.length - (K + 1))
      rw [show K + 1 + (C.length - (K + 1)) = C.length by have := hK.1; omega] at hm
      have : rlT C a b (K + 1) ≤ fr C K := by
        rw [rlT_succ]
        have := hK.2.1
        split
        · omega
        · rename_i hc
          rcases Int.lt_or_le (fr C K) (rlT C a b K) with h4 | h4
          · exact absurd ⟨h3, by omega, h4⟩ hc
          · exact h4
      omega
    · have e2 := val_in h.rise (show In C K a from ⟨hK.1, h3, fun h4 => by have := hK.2.2 h4; omega⟩)
      have hm := rlT_mono C a b 0 C.length
      rw [Nat.zero_add] at hm
      have : rlT C a b 0 = val C a := rfl
      omega
  · have key : ∀ k, k ≤ C.length → ∃ t, a ≤ t ∧ t < b ∧ val C t = rlT C a b k := by
      intro k
      induction k with
      | zero => intro _; exact ⟨a, Int.le_refl _, h1, rfl⟩
      | succ k ih =>
        intro hk
        rw [rlT_succ]
        split
        · rename_i hc
          exact ⟨tm C k, by omega, by omega, val_in h.rise (in_begin h.rise (by omega))⟩
        · exact ih (by omega)
    exact key C.length (Nat.le_refl _)

theorem rl_ls {C : List Cut} (h : RightP C) {a b : Int} (h0 : 0 ≤ a) (h1 : a < b) (h2 : b ≤ 2199023255552) : rlT C a b C.length = lsT C a b C.length := (rl_least h h0 h1).uniq (ls_least h h0 h1 h2)

/-- The first fit, as it is gathered. -/
def ftT (C : List Cut) (a len n : Int) : Nat → Int
  | 0 => a
  | k + 1 => if fr C k < n ∧ tm C k < ftT C a len n k + len ∧ ftT C a len n k < en C k then en C k else ftT C a len n k

/-- Where step k begins, or the end of all. -/
def bg (C : List Cut) (k : Nat) : Int := if k < C.length then tm C k else 9223372036854775807

theorem en_bg (C : List Cut) (k : Nat) : en C k = bg C (k + 1) := rfl

/-- What holds of the first fit behind k steps. -/
structure FitI (C : List Cut) (a len n : Int) (k : Nat) (x : Int) : Prop where
  from_ : a ≤ x
  miss : ∀ u, a ≤ u → u < x → ∃ s, u ≤ s ∧ s < u + len ∧ val C s < n
  fits : ∀ s, x ≤ s → s < x + len → s < bg C k → n ≤ val C s
  cut : x = a ∨ ∃ i, i ≤ k ∧ 0 < i ∧ x = bg C i

theorem ft_inv {C : List Cut} (h : RightP C) {a len n : Int} (h0 : 0 ≤ a) (hl : 1 ≤ len) : ∀ k, k ≤ C.length → FitI C a len n k (ftT C a len n k) := by
  intro k
  induction k with
  | zero =>
    intro _
    refine ⟨Int.le_refl _, fun u h1 h2 => ?_, fun s h1 h2 h3 => ?_, .inl rfl⟩
    · simp [ftT] at h2; omega
    · have : bg C 0 = 0 := by unfold bg; rw [if_pos h.1]; exact h.2.2.1
      simp [ftT] at h1; omega
  | succ k ih =>
    intro hk
    have I := ih (by omega)
    have hkl : k < C.length := by omega
    have hb : bg C k = tm C k := by unfold bg; rw [if_pos hkl]
    have hfr := fun s (h1 : tm C k ≤ s) (h2 : s < en C k) => val_in h.rise (in_of hkl h1 h2)
    generalize hx : ftT C a len n k = x at I
    have e : ftT C a len n (k + 1) = if fr C k < n ∧ tm C k < x + len ∧ x < en C k then en C k else x := by rw [← hx]; rfl
    rw [e]
    split
    · rename_i hc
      obtain ⟨c1, c2, c3⟩ := hc
      have hte := h.tm_en hkl
      refine ⟨by have := I.from_; omega, fun u h1 h2 => ?_, fun s h1 h2 h3 => ?_, .inr ⟨k + 1, Nat.le_refl _, by omega, en_bg C k⟩⟩
      · rcases Int.lt_or_le u x with h4 | h4
        · exact I.miss u h1 h4
        · rcases Int.lt_or_le u (tm C k) with h5 | h5
          · exact ⟨tm C k, by omega, by omega, by rw [hfr _ (Int.le_refl _) hte]; exact c1⟩
          · exact ⟨u, Int.le_refl _, by omega, by rw [hfr _ h5 h2]; exact c1⟩
      · rw [← en_bg] at h3; omega
    · rename_i hc
      refine ⟨I.from_, I.miss, fun s h1 h2 h3 => ?_, ?_⟩
      · rw [← en_bg] at h3
        rcases Int.lt_or_le s (tm C k) with h4 | h4
        · exact I.fits s h1 h2 (by rw [hb]; exact h4)
        · rw [hfr s h4 h3]
          rcases Int.lt_or_le (fr C k) n with h5 | h5
          · exact absurd ⟨h5, by omega, by omega⟩ hc
          · exact h5
      · rcases I.cut with h1 | ⟨i, h1, h2, h3⟩
        · exact .inl h1
        · exact .inr ⟨i, by omega, h2, h3⟩

/-- t is the first fit. -/
def IsFit (C : List Cut) (a len n t : Int) : Prop := a ≤ t ∧ (∀ s, t ≤ s → s < t + len → n ≤ val C s) ∧ (∀ u, a ≤ u → u < t → ∃ s, u ≤ s ∧ s < u + len ∧ val C s < n) ∧ (t = a ∨ ∃ i, i < C.length ∧ t = tm C i)

def fitP (C : List Cut) (a len n : Int) : Int := ftT C a len n C.length

theorem fit_ok {C : List Cut} (h : RightP C) {a len n : Int} (h0 : 0 ≤ a) (hl : 1 ≤ len) (hl2 : len ≤ 1099511627776) (ht : fitP C a len n ≤ 1099511627776) : IsFit C a len n (fitP C a len n) := by
  have I := ft_inv h h0 hl (n := n) C.length (Nat.le_refl _)
  have hb : bg C C.length = 9223372036854775807 := by unfold bg; rw [if_neg (by omega)]
  refine ⟨I.from_, fun s h1 h2 => ?_, I.miss, ?_⟩
  · have h1' : ftT C a len n C.length ≤ s := h1
    have h2' : s < ftT C a len n C.length + len := h2
    have ht' : ftT C a len n C.length ≤ 1099511627776 := ht
    exact I.fits s h1 h2 (by rw [hb]; omega)
  · rcases I.cut with h1 | ⟨i, h1, h2, h3⟩
    · exact .inl h1
    · rcases Nat.lt_or_ge i C.length with h4 | h4
      · refine .inr ⟨i, h4, ?_⟩
        unfold bg at h3; rw [if_pos h4] at h3; exact h3
      · have h3' : fitP C a len n = bg C i := h3
        unfold bg at h3'; rw [if_neg (by omega)] at h3'
        omega

theorem fit_no {C : List Cut} (h : RightP C) {a len n : Int} (h0 : 0 ≤ a) (hl : 1 ≤ len) (ht : 1099511627776 < fitP C a len n) : ∀ u, a ≤ u → u ≤ 1099511627776 → ∃ s, u ≤ s ∧ s < u + len ∧ val C s < n := by
  have I := ft_inv h h0 hl (n := n) C.length (Nat.le_refl _)
  intro u h1 h2
  refine I.miss u h1 ?_
  have : 1099511627776 < ftT C a len n C.length := ht
  omega

end Go.Proofs.Yticlpjpbjgfgmaa
