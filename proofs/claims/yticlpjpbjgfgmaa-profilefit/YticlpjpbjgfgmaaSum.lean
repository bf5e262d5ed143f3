/- Adding over a time, plain: what a list of cuts describes, and that only one list does. -/
import Derived.Test.YticlpjpbjgfgmaaPlain
namespace Go.Proofs.Yticlpjpbjgfgmaa

abbrev isV (v : Int) : Prop := 0 ≤ v ∧ v ≤ 1073741824

def lastF (o : List Cut) : Int := fr o (o.length - 1)
def putL (o : List Cut) (x v : Int) : List Cut := if o.length = 0 ∨ lastF o ≠ v then o ++ [(x, v)] else o
def putS (s : List Cut × Bool) (x v : Int) : List Cut × Bool := (putL s.1 x v, s.2 || !decide (isV v))

theorem tm_left (o : List Cut) (c : Cut) {i : Nat} (h : i < o.length) : tm (o ++ [c]) i = tm o i := by
  simp [tm, List.getD, List.getElem?_append_left h]
theorem fr_left (o : List Cut) (c : Cut) {i : Nat} (h : i < o.length) : fr (o ++ [c]) i = fr o i := by
  simp [fr, List.getD, List.getElem?_append_left h]
theorem tm_last (o : List Cut) (c : Cut) : tm (o ++ [c]) o.length = c.1 := by simp [tm, List.getD]
theorem fr_last (o : List Cut) (c : Cut) : fr (o ++ [c]) o.length = c.2 := by simp [fr, List.getD]

/-- The cuts of s describe g from 0 on, below E; its sign tells whether a value of g there is none that may be. -/
structure Ds (g : Int → Int) (s : List Cut × Bool) (E : Int) : Prop where
  rise : Rise s.1
  low : ∀ i, i < s.1.length → 0 ≤ tm s.1 i ∧ tm s.1 i < E
  first : 0 < E → 0 < s.1.length ∧ tm s.1 0 = 0
  vals : ∀ t, 0 ≤ t → t < E → val s.1 t = g t
  over : s.2 = true ↔ ∃ t, 0 ≤ t ∧ t < E ∧ ¬ isV (g t)

theorem val_past {o : List Cut} (h : Rise o) (h0 : 0 < o.length) {t : Int} (ht : tm o (o.length - 1) ≤ t) : val o t = lastF o :=
  val_in h ⟨by omega, ht, fun h1 => absurd h1 (by omega)⟩

theorem Rise.snoc {o : List Cut} (h : Rise o) {x v : Int} (hn : 0 < o.length → tm o (o.length - 1) < x ∧ lastF o ≠ v) : Rise (o ++ [(x, v)]) := by
  intro i hi
  simp at hi
  rcases Nat.lt_or_ge (i + 1) o.length with h1 | h1
  · rw [tm_left o _ h1, fr_left o _ h1, tm_left o _ (by omega), fr_left o _ (by omega)]; exact h i h1
  · have e : i + 1 = o.length := by omega
    have h2 := hn (by omega)
    rw [tm_left o _ (by omega), fr_left o _ (by omega), e, tm_last, fr_last]
    rw [show o.length - 1 = i by omega] at h2
    refine ⟨h2.1, ?_⟩
    have := h2.2
    unfold lastF at this
    rw [show o.length - 1 = i by omega] at this
    exact this

theorem over_step {g : Int → Int} {s : List Cut × Bool} {x v : Int} (h : s.2 = true ↔ ∃ t, 0 ≤ t ∧ t < x ∧ ¬ isV (g t)) (hx : 0 ≤ x) (hv : g x = v) : (s.2 || !decide (isV v)) = true ↔ ∃ t, 0 ≤ t ∧ t < x + 1 ∧ ¬ isV (g t) := by
  rw [Bool.or_eq_true, h]
  constructor
  · rintro (⟨t, h1, h2, h3⟩ | h1)
    · exact ⟨t, h1, by omega, h3⟩
    · refine ⟨x, hx, by omega, ?_⟩
      rw [hv]
      intro hi
      rw [decide_eq_true hi] at h1
      cases h1
  · rintro ⟨t, h1, h2, h3⟩
    rcases Int.lt_or_le t x with h4 | h4
    · exact .inl ⟨t, h1, h4, h3⟩
    · have : t = x := by omega
      subst this
      rw [hv] at h3
      exact .inr (by rw [decide_eq_false h3]; rfl)

theorem Ds.put {g : Int → Int} {s : List Cut × Bool} {x v : Int} (h : Ds g s x) (hx : 0 ≤ x) (hv : g x = v) : Ds g (putS s x v) (x + 1) := by
  have hov := over_step h.over hx hv
  obtain ⟨o, q⟩ := s
  have hr : Rise o := h.rise
  have hl : ∀ i, i < o.length → 0 ≤ tm o i ∧ tm o i < x := h.low
  have hf : 0 < x → 0 < o.length ∧ tm o 0 = 0 := h.first
  have hvs : ∀ t, 0 ≤ t → t < x → val o t = g t := h.vals
  by_cases hc : o.length = 0 ∨ lastF o ≠ v
  · have e : putS (o, q) x v = (o ++ [(x, v)], q || !decide (isV v)) := by unfold putS putL; rw [if_pos hc]
    rw [e]
    refine ⟨?_, ?_, ?_, ?_, hov⟩
    · refine hr.snoc fun h0 => ⟨(hl _ (by omega)).2, ?_⟩
      rcases hc with h1 | h1
      · omega
      · exact h1
    · intro i hi
      simp at hi
      show 0 ≤ tm (o ++ [(x, v)]) i ∧ tm (o ++ [(x, v)]) i < x + 1
      rcases Nat.lt_or_ge i o.length with h1 | h1
      · rw [tm_left o _ h1]; have := hl i h1; omega
      · have e : i = o.length := by omega
        subst e
        rw [tm_last]
        show 0 ≤ x ∧ x < x + 1
        omega
    · intro _
      refine ⟨by simp, ?_⟩
      show tm (o ++ [(x, v)]) 0 = 0
      rcases Nat.eq_zero_or_pos o.length with h0 | h0
      · have : o = [] := List.eq_nil_of_length_eq_zero h0
        subst this
        show x = 0
        rcases Int.lt_or_le 0 x with h2 | h2
        · have := (hf h2).1; omega
        · omega
      · rw [tm_left o _ h0]
        have : 0 < x := by have := hl 0 h0; omega
        exact (hf this).2
    · intro t h1 h2
      show val (o ++ [(x, v)]) t = g t
      rw [val_snoc]
      split
      · rename_i h3
        have : t = x := by simp at h3; omega
        subst this; exact hv.symm
      · rename_i h3
        exact hvs t h1 (by simp at h3; omega)
  · have e : putS (o, q) x v = (o, q || !decide (isV v)) := by unfold putS putL; rw [if_neg hc]
    have h0 : 0 < o.length := by omega
    have h1 : lastF o = v := by
      rcases Decidable.em (lastF o = v) with h2 | h2
      · exact h2
      · exact absurd (.inr h2) hc
    rw [e]
    refine ⟨hr, fun i hi => ?_, fun _ => hf (by have := hl 0 h0; omega), fun t h2 h3 => ?_, hov⟩
    · have := hl i hi
      show 0 ≤ tm o i ∧ tm o i < x + 1
      omega
    · show val o t = g t
      rcases Int.lt_or_le t x with h4 | h4
      · exact hvs t h2 h4
      · have : t = x := by omega
        subst this
        rw [val_past hr h0 (by have := (hl (o.length - 1) (by omega)).2; omega), h1, hv]

theorem Ds.ext {g : Int → Int} {s : List Cut × Bool} {E E' : Int} (h : Ds g s E) (h0 : 0 < E) (hE : E ≤ E') (hg : ∀ t, E ≤ t → t < E' → g t = g (E - 1)) : Ds g s E' := by
  refine ⟨h.rise, fun i hi => by have := h.low i hi; omega, fun _ => h.first h0, fun t h1 h2 => ?_, h.over.trans ?_⟩
  · rcases Int.lt_or_le t E with h3 | h3
    · exact h.vals t h1 h3
    · rw [hg t h3 h2, ← h.vals (E - 1) (by omega) (by omega)]
      have hf := (h.first h0).1
      have hl := (h.low (s.1.length - 1) (by omega)).2
      rw [val_past h.rise hf (by omega), val_past h.rise hf (by omega)]
  · constructor
    · rintro ⟨t, h1, h2, h3⟩; exact ⟨t, h1, by omega, h3⟩
    · rintro ⟨t, h1, h2, h3⟩
      rcases Int.lt_or_le t E with h4 | h4
      · exact ⟨t, h1, h4, h3⟩
      · rw [hg t h4 h2] at h3
        exact ⟨E - 1, by omega, by omega, h3⟩

theorem Ds.seg {g : Int → Int} {s : List Cut × Bool} {x y v : Int} (h : Ds g s x) (hx : 0 ≤ x) (hy : x < y) (hv : ∀ t, x ≤ t → t < y → g t = v) : Ds g (putS s x v) y := by
  refine (h.put hx (hv x (Int.le_refl _) hy)).ext (by omega) (by omega) fun t h1 h2 => ?_
  rw [hv t (by omega) h2, show x + 1 - 1 = x by omega, hv x (Int.le_refl _) hy]

theorem Ds.again {g : Int → Int} {s : List Cut × Bool} {x : Int} (h : Ds g s (x + 1)) (hx : 0 ≤ x) : putS s x (g x) = s := by
  obtain ⟨o, q⟩ := s
  have hr : Rise o := h.rise
  have hf := h.first (by omega)
  have h0 : 0 < o.length := hf.1
  have hl : tm o (o.length - 1) < x + 1 := (h.low (o.length - 1) (by show o.length - 1 < o.length; omega)).2
  have hv : val o x = g x := h.vals x hx (by omega)
  rw [val_past hr h0 (by omega)] at hv
  unfold putS putL
  rw [if_neg (by rintro (h1 | h1) <;> simp_all)]
  congr 1
  show (q || !decide (isV (g x))) = q
  by_cases hb : isV (g x)
  · simp [hb]
  · have : q = true := h.over.2 ⟨x, hx, by omega, hb⟩
    rw [this]; rfl

theorem Ds.one {g : Int → Int} {s t : List Cut × Bool} {E : Int} (h : Ds g s E) (k : Ds g t E) : ∀ i, i < s.1.length → i < t.1.length ∧ tm s.1 i = tm t.1 i ∧ fr s.1 i = fr t.1 i := by
  intro i
  induction i with
  | zero =>
    intro h0
    have hE : 0 < E := by have := h.low 0 h0; omega
    obtain ⟨_, a1⟩ := h.first hE
    obtain ⟨b0, b1⟩ := k.first hE
    refine ⟨b0, by rw [a1, b1], ?_⟩
    have e1 := val_in h.rise (in_begin h.rise h0)
    have e2 := val_in k.rise (in_begin k.rise b0)
    rw [a1] at e1
    rw [b1] at e2
    rw [← e1, ← e2, h.vals 0 (by omega) hE, k.vals 0 (by omega) hE]
  | succ i ih =>
    intro hi
    obtain ⟨c1, c2, c3⟩ := ih (by omega)
    have hx := h.low (i + 1) hi
    have hri := h.rise i hi
    have v1 := val_in h.rise (in_begin h.rise hi)
    have g1 := h.vals _ hx.1 hx.2
    have g2 := k.vals _ hx.1 hx.2
    have hlt : i + 1 < t.1.length ∧ tm t.1 (i + 1) ≤ tm s.1 (i + 1) := by
      by_cases hc : i + 1 < t.1.length ∧ tm t.1 (i + 1) ≤ tm s.1 (i + 1)
      · exact hc
      · have v2 := val_in k.rise (show In t.1 i (tm s.1 (i + 1)) from ⟨c1, by omega, fun h1 => by
          rcases Int.lt_or_le (tm s.1 (i + 1)) (tm t.1 (i + 1)) with h2 | h2
          · exact h2
          · exact absurd ⟨h1, h2⟩ hc⟩)
        have := hri.2
        omega
    obtain ⟨d1, d2⟩ := hlt
    have hrk := k.rise i d1
    have e : tm t.1 (i + 1) = tm s.1 (i + 1) := by
      rcases Int.lt_or_le (tm t.1 (i + 1)) (tm s.1 (i + 1)) with h1 | h1
      · have hy := k.low (i + 1) d1
        have v3 := val_in h.rise (show In s.1 i (tm t.1 (i + 1)) from ⟨by omega, by omega, fun _ => h1⟩)
        have v4 := val_in k.rise (in_begin k.rise d1)
        have g3 := h.vals _ hy.1 hy.2
        have g4 := k.vals _ hy.1 hy.2
        have := hrk.2
        omega
      · omega
    refine ⟨d1, e.symm, ?_⟩
    have v5 := val_in k.rise (in_begin k.rise d1)
    rw [e] at v5
    omega

theorem Ds.uniq {g : Int → Int} {s t : List Cut × Bool} {E : Int} (h : Ds g s E) (k : Ds g t E) : s = t := by
  have h1 := h.one k
  have h2 := k.one h
  have hlen : s.1.length = t.1.length := by
    rcases Nat.lt_trichotomy s.1.length t.1.length with h3 | h3 | h3
    · have := (h2 _ h3).1; omega
    · exact h3
    · have := (h1 _ h3).1; omega
  refine Prod.ext (List.ext_getElem hlen fun i hi hj => ?_) ?_
  · obtain ⟨_, e1, e2⟩ := h1 i hi
    exact Prod.ext (by rw [tm_eq hi, tm_eq hj, e1]) (by rw [fr_eq hi, fr_eq hj, e2])
  · have := h.over.trans k.over.symm
    cases hs : s.2 <;> cases ht : t.2 <;> simp_all

theorem Ds.congr {g f : Int → Int} {s : List Cut × Bool} {E : Int} (h : Ds g s E) (e : ∀ t, 0 ≤ t → t < E → g t = f t) : Ds f s E := by
  refine ⟨h.rise, h.low, h.first, fun t h1 h2 => by rw [h.vals t h1 h2, e t h1 h2], h.over.trans ?_⟩
  constructor
  · rintro ⟨t, h1, h2, h3⟩; exact ⟨t, h1, h2, by rw [← e t h1 h2]; exact h3⟩
  · rintro ⟨t, h1, h2, h3⟩; exact ⟨t, h1, h2, by rw [e t h1 h2]; exact h3⟩

/-- A right step function describes itself. -/
theorem RightP.ds {C : List Cut} (h : RightP C) : Ds (val C) (C, false) 2199023255553 := by
  refine ⟨h.rise, fun i hi => ⟨h.tm_nonneg hi, ?_⟩, fun _ => ⟨h.1, h.2.2.1⟩, fun _ _ _ => rfl, ?_⟩
  · have := (h.2.2.2 i hi).1
    show tm C i < 2199023255553
    omega
  · constructor
    · intro h1; cases h1
    · rintro ⟨t, h1, _, h3⟩; exact absurd (h.val_bd h1) h3

theorem Ds.right {g : Int → Int} {s : List Cut × Bool} (h : Ds g s 2199023255553) (ho : s.2 = false) (hl : s.1.length ≤ 4096) : RightP s.1 := by
  have h0 := h.first (by omega)
  refine ⟨h0.1, hl, h0.2, fun i hi => ⟨by have := h.low i hi; omega, ?_, fun hp => ?_⟩⟩
  · have hb := h.low i hi
    have e := h.vals _ hb.1 hb.2
    rw [val_in h.rise (in_begin h.rise hi)] at e
    rcases Decidable.em (isV (g (tm s.1 i))) with h1 | h1
    · rw [e]; exact h1
    · have := h.over.2 ⟨_, hb.1, hb.2, h1⟩
      rw [ho] at this; cases this
  · have := h.rise (i - 1) (by omega)
    rw [show i - 1 + 1 = i by omega] at this
    exact this

/-- The values that are asked for. -/
def gv (C : List Cut) (a b n : Int) (t : Int) : Int := val C t + if a ≤ t ∧ t < b then n else 0

def ad1 (C : List Cut) (a : Int) (k : Nat) (s : List Cut × Bool) : List Cut × Bool := if tm C k < a then putS s (tm C k) (fr C k) else s
def ad2 (C : List Cut) (a b n : Int) (k : Nat) (s : List Cut × Bool) : List Cut × Bool := if tm C k < b ∧ a < en C k then putS s (max (tm C k) a) (fr C k + n) else s
def ad3 (C : List Cut) (b : Int) (k : Nat) (s : List Cut × Bool) : List Cut × Bool := if b < en C k then putS s (max (tm C k) b) (fr C k) else s
def adT (C : List Cut) (a b n : Int) : Nat → List Cut × Bool
  | 0 => ([], false)
  | k + 1 => ad3 C b k (ad2 C a b n k (ad1 C a k (adT C a b n k)))

def bgT (C : List Cut) (k : Nat) : Int := if k < C.length then tm C k else 2199023255553

theorem ad_ds {C : List Cut} (h : RightP C) {a b n : Int} (h0 : 0 ≤ a) (h1 : a < b) (h2 : b ≤ 2199023255552) : ∀ k, k ≤ C.length → Ds (gv C a b n) (adT C a b n k) (bgT C k) := by
  intro k
  induction k with
  | zero =>
    intro _
    have : bgT C 0 = 0 := by unfold bgT; rw [if_pos h.1]; exact h.2.2.1
    rw [this]
    refine ⟨fun i hi => absurd hi (by simp [adT]), fun i hi => absurd hi (by simp [adT]), fun h => absurd h (by omega), fun t h3 h4 => by omega, ?_⟩
    constructor
    · intro h3; cases h3
    · rintro ⟨t, h3, h4, _⟩; omega
  | succ k ih =>
    intro hk
    have S0 := ih (by omega)
    have hkl : k < C.length := by omega
    have hb : bgT C k = tm C k := by unfold bgT; rw [if_pos hkl]
    have hn := h.tm_nonneg hkl
    have hT := (h.2.2.2 k hkl).1
    have hfr : ∀ s, tm C k ≤ s → s < bgT C (k + 1) → val C s = fr C k := by
      intro s s1 s2
      refine val_in h.rise ⟨hkl, s1, fun h3 => ?_⟩
      unfold bgT at s2; rw [if_pos h3] at s2; exact s2
    have hte : tm C k < bgT C (k + 1) := by
      unfold bgT
      split
      · rename_i h3; exact (h.rise k h3).1
      · omega
    have hea : a < en C k ↔ a < bgT C (k + 1) := by
      unfold en bgT
      split
      · exact Iff.rfl
      · omega
    have heb : b < en C k ↔ b < bgT C (k + 1) := by
      unfold en bgT
      split
      · exact Iff.rfl
      · omega
    rw [hb] at S0
    show Ds _ (ad3 C b k (ad2 C a b n k (ad1 C a k (adT C a b n k)))) _
    generalize adT C a b n k = s0 at S0
    generalize hE : bgT C (k + 1) = E at *
    have S1 : Ds (gv C a b n) (ad1 C a k s0) (max (tm C k) (min a E)) := by
      unfold ad1
      split
      · refine S0.seg hn (by omega) fun t t1 t2 => ?_
        unfold gv
        rw [hfr t t1 (by omega), if_neg (by omega)]
        omega
      · rw [show max (tm C k) (min a E) = tm C k by omega]
        exact S0
    have S2 : Ds (gv C a b n) (ad2 C a b n k (ad1 C a k s0)) (if tm C k < b ∧ a < E then min b E else max (tm C k) (min a E)) := by
      unfold ad2
      simp only [hea]
      split
      · rename_i hc
        rw [show max (tm C k) (min a E) = max (tm C k) a by omega] at S1
        refine S1.seg (by omega) (by omega) fun t t1 t2 => ?_
        unfold gv
        rw [hfr t (by omega) (by omega), if_pos (by omega)]
      · exact S1
    unfold ad3
    simp only [heb]
    split
    · rename_i hc
      have e : (if tm C k < b ∧ a < E then min b E else max (tm C k) (min a E)) = max (tm C k) b := by split <;> omega
      rw [e] at S2
      refine S2.seg (by omega) (by omega) fun t t1 t2 => ?_
      unfold gv
      rw [hfr t (by omega) (by omega), if_neg (by omega)]
      omega
    · rename_i hc
      have e : (if tm C k < b ∧ a < E then min b E else max (tm C k) (min a E)) = E := by split <;> omega
      rw [e] at S2
      exact S2

def addP (C : List Cut) (a b n : Int) : List Cut × Bool := adT C a b n C.length

theorem add_ds {C : List Cut} (h : RightP C) {a b n : Int} (h0 : 0 ≤ a) (h1 : a < b) (h2 : b ≤ 2199023255552) : Ds (gv C a b n) (addP C a b n) 2199023255553 := by
  have := ad_ds h h0 h1 h2 (n := n) C.length (Nat.le_refl _)
  unfold bgT at this
  rw [if_neg (by omega)] at this
  exact this

theorem putS_len (s : List Cut × Bool) (x v : Int) : (putS s x v).1.length ≤ s.1.length + 1 := by
  unfold putS putL
  show (if _ then _ else _ : List Cut).length ≤ _
  split
  · simp
  · omega

theorem adT_len (C : List Cut) (a b n : Int) (k : Nat) : (adT C a b n k).1.length ≤ 3 * k := by
  induction k with
  | zero => simp [adT]
  | succ k ih =>
    have e1 : (ad1 C a k (adT C a b n k)).1.length ≤ (adT C a b n k).1.length + 1 := by
      unfold ad1; split
      · exact putS_len _ _ _
      · omega
    have e2 : (ad2 C a b n k (ad1 C a k (adT C a b n k))).1.length ≤ (ad1 C a k (adT C a b n k)).1.length + 1 := by
      unfold ad2; split
      · exact putS_len _ _ _
      · omega
    have e3 : (ad3 C b k (ad2 C a b n k (ad1 C a k (adT C a b n k)))).1.length ≤ (ad2 C a b n k (ad1 C a k (adT C a b n k))).1.length + 1 := by
      unfold ad3; split
      · exact putS_len _ _ _
      · omega
    show (ad3 C b k (ad2 C a b n k (ad1 C a k (adT C a b n k)))).1.length ≤ _
    omega

/-- What Add tells. -/
abbrev winP (a b : Int) : Prop := 0 ≤ a ∧ a < b ∧ b ≤ 2199023255552
abbrev argP (C : List Cut) (a b n : Int) : Prop := RightP C ∧ winP a b ∧ (-1073741824 ≤ n ∧ n ≤ 1073741824)
def addA (C : List Cut) (a b n : Int) : List Cut × Int :=
  if argP C a b n then (if (addP C a b n).2 = true then ([], 120) else if 4096 < (addP C a b n).1.length then ([], 5) else ((addP C a b n).1, 0)) else ([], 2)

/-- What is told is right; its values are as asked; adding back is what there was. -/
theorem add_good {C : List Cut} {a b n : Int} (h : (addA C a b n).2 = 0) :
    argP C a b n ∧ RightP (addA C a b n).1 ∧ (∀ t, 0 ≤ t → t ≤ 2199023255552 → val (addA C a b n).1 t = gv C a b n t) ∧ addA (addA C a b n).1 a b (-n) = (C, 0) := by
  by_cases hg : argP C a b n
  · have hd := add_ds hg.1 hg.2.1.1 hg.2.1.2.1 hg.2.1.2.2 (n := n)
    unfold addA at h
    rw [if_pos hg] at h
    by_cases ho : (addP C a b n).2 = true
    · rw [if_pos ho] at h; cases h
    · rw [if_neg ho] at h
      by_cases hf : 4096 < (addP C a b n).1.length
      · rw [if_pos hf] at h; cases h
      · have e : addA C a b n = ((addP C a b n).1, 0) := by unfold addA; rw [if_pos hg, if_neg ho, if_neg hf]
        have hr := hd.right (by simpa using ho) (by omega)
        rw [e]
        refine ⟨hg, hr, fun t h1 h2 => hd.vals t h1 (by omega), ?_⟩
        have hg2 : argP (addP C a b n).1 a b (-n) := ⟨hr, hg.2.1, by have := hg.2.2; omega⟩
        have hd2 := add_ds hr hg.2.1.1 hg.2.1.2.1 hg.2.1.2.2 (n := -n)
        have hd3 : Ds (val C) (addP (addP C a b n).1 a b (-n)) 2199023255553 := by
          refine hd2.congr fun t h1 h2 => ?_
          unfold gv
          rw [hd.vals t h1 h2]
          unfold gv
          split <;> omega
        have e2 := hd3.uniq hg.1.ds
        have hl := hg.1.2.1
        show addA (addP C a b n).1 a b (-n) = (C, 0)
        unfold addA
        rw [if_pos hg2, e2]
        simp; omega
  · unfold addA at h; rw [if_neg hg] at h; cases h

end Go.Proofs.Yticlpjpbjgfgmaa
