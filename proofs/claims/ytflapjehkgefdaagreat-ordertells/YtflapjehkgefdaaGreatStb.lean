/- The stable sort, plain: exchanging two runs, merging in place (SymMerge), blocks that grow. -/
import Derived.Sort.LotA
namespace Go.Proofs.YtflapjehkgefdaaGreat
open Go.Sort
set_option linter.unusedVariables false
set_option linter.unusedSimpArgs false
section
variable {α : Type} [Inhabited α]

/-- d' is d, its runs from a to m and from m to b changed over. -/
structure Rot (d : Array α) (a m b : Nat) (d' : Array α) : Prop where
  size : d'.size = d.size
  out : ∀ k, (k < a ∨ b ≤ k) → d'[k]! = d[k]!
  lo : ∀ k, a ≤ k → k < a + (b - m) → d'[k]! = d[k + (m - a)]!
  hi : ∀ k, a + (b - m) ≤ k → k < b → d'[k]! = d[k - (b - m)]!

theorem Rot.perm {d d' : Array α} {a m b : Nat} (h : Rot d a m b d') (ham : a ≤ m) (hmb : m ≤ b) (hb : b ≤ d.size) : PermIn a b d d' := by
  refine ⟨h.size, h.out, ?_⟩
  rw [extract_toList d' a b (by rw [h.size]; exact hb), extract_toList d a b hb]
  have e1 : List.range' a (b - a) = List.range' a (b - m) ++ List.range' (a + (b - m)) (m - a) := by
    rw [List.range'_append_1]; congr 1; omega
  have e2 : List.range' a (b - a) = List.range' a (m - a) ++ List.range' m (b - m) := by
    have := List.range'_append_1 (s := a) (m := m - a) (n := b - m)
    rw [show a + (m - a) = m by omega, show m - a + (b - m) = b - a by omega] at this
    exact this.symm
  have f1 : (List.range' a (b - m)).map (fun i => d'[i]!) = (List.range' m (b - m)).map (fun i => d[i]!) := by
    apply List.ext_getElem
    · simp
    · intro k h1 h2
      have hk : k < b - m := by simpa using h1
      simp only [List.getElem_map, List.getElem_range', Nat.one_mul]
      rw [h.lo (a + k) (by omega) (by omega)]
      congr 1
      omega
  have f2 : (List.range' (a + (b - m)) (m - a)).map (fun i => d'[i]!) = (List.range' a (m - a)).map (fun i => d[i]!) := by
    apply List.ext_getElem
    · simp
    · intro k h1 h2
      have hk : k < m - a := by simpa using h1
      simp only [List.getElem_map, List.getElem_range', Nat.one_mul]
      rw [h.hi (a + (b - m) + k) (by omega) (by omega)]
      congr 1
      omega
  have g1 : (List.range' a (b - a)).map (fun i => d'[i]!) = (List.range' m (b - m)).map (fun i => d[i]!) ++ (List.range' a (m - a)).map (fun i => d[i]!) := by
    conv => lhs; rw [e1]
    rw [List.map_append, f1, f2]
  have g2 : (List.range' a (b - a)).map (fun i => d[i]!) = (List.range' a (m - a)).map (fun i => d[i]!) ++ (List.range' m (b - m)).map (fun i => d[i]!) := by
    conv => lhs; rw [e2]
    rw [List.map_append]
  rw [g1, g2]
  exact List.perm_append_comm

/-- Nothing to change over. -/
theorem Rot.none {d : Array α} {a b : Nat} (hab : a ≤ b) : Rot d a a b d :=
  ⟨rfl, fun _ _ => rfl, fun k _ _ => by simp, fun k h1 h2 => by omega⟩
theorem Rot.none' {d : Array α} {a b : Nat} (hab : a ≤ b) : Rot d a b b d :=
  ⟨rfl, fun _ _ => rfl, fun k h1 h2 => by omega, fun k _ _ => by simp⟩

/-- n places from a on and from b on changed over. -/
def swapR (d : Array α) (a b : Nat) : Nat → Array α
  | 0 => d
  | n + 1 => swp (swapR d a b n) (a + n) (b + n)
theorem swapR_size (d : Array α) (a b n : Nat) : (swapR d a b n).size = d.size := by
  induction n with
  | zero => rfl
  | succ n ih => rw [swapR, swp_size, ih]
theorem swapR_get (d : Array α) (a b n : Nat) (hab : a + n ≤ b) (hb : b + n ≤ d.size) (k : Nat) :
    (swapR d a b n)[k]! = if a ≤ k ∧ k < a + n then d[k - a + b]! else if b ≤ k ∧ k < b + n then d[k - b + a]! else d[k]! := by
  induction n generalizing k with
  | zero => rw [swapR, if_neg (by omega), if_neg (by omega)]
  | succ n ih =>
    have hs := swapR_size d a b n
    rw [swapR, swp_get _ (by omega) (by omega), ih (by omega) (by omega), ih (by omega) (by omega), ih (by omega) (by omega)]
    by_cases h1 : k = b + n
    · subst h1
      rw [if_pos rfl, if_neg (by omega), if_neg (by omega), if_neg (by omega), if_pos (by omega)]
      congr 1; omega
    · rw [if_neg h1]
      by_cases h2 : k = a + n
      · subst h2
        rw [if_pos rfl, if_neg (by omega), if_neg (by omega), if_pos (by omega)]
        congr 1; omega
      · rw [if_neg h2]
        by_cases h3 : a ≤ k ∧ k < a + n
        · rw [if_pos h3, if_pos (by omega)]
        · rw [if_neg h3, if_neg (c := a ≤ k ∧ k < a + (n + 1)) (by omega)]
          by_cases h4 : b ≤ k ∧ k < b + n
          · rw [if_pos h4, if_pos (by omega)]
          · rw [if_neg h4, if_neg (by omega)]

/-- What the loop of rotate does: two runs of i and j around m. -/
theorem Rot.same {d : Array α} {m i : Nat} (hi : i ≤ m) (hb : m + i ≤ d.size) : Rot d (m - i) m (m + i) (swapR d (m - i) m i) := by
  have g := swapR_get d (m - i) m i (by omega) (by omega)
  refine ⟨swapR_size _ _ _ _, fun k hk => ?_, fun k h1 h2 => ?_, fun k h1 h2 => ?_⟩
  · rw [g, if_neg (by omega), if_neg (by omega)]
  · rw [g, if_pos (by omega)]; congr 1; omega
  · rw [g, if_neg (by omega), if_pos (by omega)]; congr 1; omega
theorem Rot.left {d d' : Array α} {m i j : Nat} (hi : i ≤ m) (hb : m + j ≤ d.size) (hij : j < i) (h : Rot (swapR d (m - i) m j) (m - (i - j)) m (m + j) d') : Rot d (m - i) m (m + j) d' := by
  have g := swapR_get d (m - i) m j (by omega) (by omega)
  refine ⟨h.size.trans (swapR_size _ _ _ _), fun k hk => ?_, fun k h1 h2 => ?_, fun k h1 h2 => ?_⟩
  · rw [h.out k (by omega), g, if_neg (by omega), if_neg (by omega)]
  · rw [h.out k (by omega), g, if_pos (by omega)]; congr 1; omega
  · rcases Nat.lt_or_ge k (m - (i - j) + j) with h3 | h3
    · rw [h.lo k (by omega) (by omega), g, if_neg (by omega), if_pos (by omega)]; congr 1; omega
    · rw [h.hi k (by omega) (by omega), g, if_neg (by omega), if_neg (by omega)]
theorem Rot.right {d d' : Array α} {m i j : Nat} (hi : i ≤ m) (hb : m + j ≤ d.size) (hij : i < j) (h : Rot (swapR d (m - i) (m + j - i) i) (m - i) m (m + (j - i)) d') : Rot d (m - i) m (m + j) d' := by
  have g := swapR_get d (m - i) (m + j - i) i (by omega) (by omega)
  refine ⟨h.size.trans (swapR_size _ _ _ _), fun k hk => ?_, fun k h1 h2 => ?_, fun k h1 h2 => ?_⟩
  · rw [h.out k (by omega), g, if_neg (by omega), if_neg (by omega)]
  · rcases Nat.lt_or_ge k (m - i + (j - i)) with h3 | h3
    · rw [h.lo k (by omega) (by omega), g, if_neg (by omega), if_neg (by omega)]
    · rw [h.hi k (by omega) (by omega), g, if_pos (by omega)]; congr 1; omega
  · rw [h.out k (by omega), g, if_neg (by omega), if_pos (by omega)]; congr 1; omega

/-- One step of moving a's element up. -/
theorem Rot.up {d d' : Array α} {a k : Nat} (hk : k + 1 < d.size) (hak : a ≤ k) (h : Rot d a (a + 1) (k + 1) d') : Rot d a (a + 1) (k + 2) (swp d' k (k + 1)) := by
  have g := swp_get d' (i := k) (j := k + 1) (by rw [h.size]; omega) (by rw [h.size]; exact hk)
  refine ⟨(swp_size _ _ _).trans h.size, fun t ht => ?_, fun t h1 h2 => ?_, fun t h1 h2 => ?_⟩
  · rw [g, if_neg (by omega), if_neg (by omega), h.out t (by omega)]
  · by_cases e : t = k
    · subst e
      rw [g, if_neg (by omega), if_pos rfl, h.out (t + 1) (by omega)]; congr 1; omega
    · rw [g, if_neg (by omega), if_neg e, h.lo t h1 (by omega)]
  · have e : t = k + 1 := by omega
    subst e
    rw [g, if_pos rfl, h.hi k (by omega) (by omega)]; congr 1; omega
/-- One step of moving m's element down. -/
theorem Rot.down {d d' : Array α} {m k : Nat} (hm : m < d.size) (hkm : k + 1 ≤ m) (h : Rot d (k + 1) m (m + 1) d') : Rot d k m (m + 1) (swp d' (k + 1) k) := by
  have g := swp_get d' (i := k + 1) (j := k) (by rw [h.size]; omega) (by rw [h.size]; omega)
  refine ⟨(swp_size _ _ _).trans h.size, fun t ht => ?_, fun t h1 h2 => ?_, fun t h1 h2 => ?_⟩
  · rw [g, if_neg (by omega), if_neg (by omega), h.out t (by omega)]
  · have e : t = k := by omega
    subst e
    rw [g, if_pos rfl, h.lo (t + 1) (by omega) (by omega)]; congr 1; omega
  · by_cases e : t = k + 1
    · subst e
      rw [g, if_neg (by omega), if_pos rfl, h.out k (by omega)]; congr 1; omega
    · rw [g, if_neg (by omega), if_neg e, h.hi t (by omega) h2]

variable {lt : α → α → Bool}
/-- Where a's element belongs. -/
structure Lo (lt : α → α → Bool) (d : Array α) (x lo hi i j : Nat) : Prop where
  l : lo ≤ i
  m : i ≤ j
  r : j ≤ hi
  less : ∀ t, lo ≤ t → t < i → lt d[t]! d[x]! = true
  not : ∀ t, j ≤ t → t < hi → lt d[t]! d[x]! = false
theorem Lo.start {d : Array α} {x lo hi : Nat} (h : lo ≤ hi) : Lo lt d x lo hi lo hi := ⟨Nat.le_refl _, h, Nat.le_refl _, fun t _ _ => by omega, fun t _ _ => by omega⟩
theorem Lo.yes (hS : SWO lt) {d : Array α} {x lo hi i j c : Nat} (h : Lo lt d x lo hi i j) (hs : SortedIn lt lo hi d) (hc : i ≤ c) (hcj : c < j) (hl : lt d[c]! d[x]! = true) : Lo lt d x lo hi (c + 1) j :=
  ⟨by have := h.l; omega, by omega, h.r, fun t h1 h2 => by
    rcases Nat.lt_or_ge t c with e | e
    · cases hx : lt d[t]! d[x]! with
      | true => rfl
      | false =>
        have h3 := hs t c h1 e (by have := h.r; omega)
        have h4 := hS.ntrans _ _ _ h3 hx
        rw [hl] at h4; cases h4
    · have : t = c := by omega
      subst this; exact hl, h.not⟩
theorem Lo.no (hS : SWO lt) {d : Array α} {x lo hi i j c : Nat} (h : Lo lt d x lo hi i j) (hs : SortedIn lt lo hi d) (hc : i ≤ c) (hcj : c < j) (hl : lt d[c]! d[x]! = false) : Lo lt d x lo hi i c :=
  ⟨h.l, hc, by have := h.r; omega, h.less, fun t h1 h2 => by
    rcases Nat.lt_or_ge c t with e | e
    · have h3 := hs c t (by have := h.l; omega) e h2
      exact hS.ntrans _ _ _ h3 hl
    · have : t = c := by omega
      subst this; exact hl⟩
/-- Where m's element belongs. -/
structure Hi (lt : α → α → Bool) (d : Array α) (x lo hi i j : Nat) : Prop where
  l : lo ≤ i
  m : i ≤ j
  r : j ≤ hi
  not : ∀ t, lo ≤ t → t < i → lt d[x]! d[t]! = false
  less : ∀ t, j ≤ t → t < hi → lt d[x]! d[t]! = true
theorem Hi.start {d : Array α} {x lo hi : Nat} (h : lo ≤ hi) : Hi lt d x lo hi lo hi := ⟨Nat.le_refl _, h, Nat.le_refl _, fun t _ _ => by omega, fun t _ _ => by omega⟩
theorem Hi.no (hS : SWO lt) {d : Array α} {x lo hi i j c : Nat} (h : Hi lt d x lo hi i j) (hs : SortedIn lt lo hi d) (hc : i ≤ c) (hcj : c < j) (hl : lt d[x]! d[c]! = false) : Hi lt d x lo hi (c + 1) j :=
  ⟨by have := h.l; omega, by omega, h.r, fun t h1 h2 => by
    rcases Nat.lt_or_ge t c with e | e
    · exact hS.ntrans _ _ _ hl (hs t c h1 e (by have := h.r; omega))
    · have : t = c := by omega
      subst this; exact hl, h.less⟩
theorem Hi.yes (hS : SWO lt) {d : Array α} {x lo hi i j c : Nat} (h : Hi lt d x lo hi i j) (hs : SortedIn lt lo hi d) (hc : i ≤ c) (hcj : c < j) (hl : lt d[x]! d[c]! = true) : Hi lt d x lo hi i c :=
  ⟨h.l, hc, by have := h.r; omega, h.not, fun t h1 h2 => by
    rcases Nat.lt_or_ge c t with e | e
    · cases hx : lt d[x]! d[t]! with
      | true => rfl
      | false =>
        have h3 := hs c t (by have := h.l; omega) e h2
        have h4 := hS.ntrans _ _ _ hx h3
        rw [hl] at h4; cases h4
    · have : t = c := by omega
      subst this; exact hl⟩

theorem sorted_lo (hS : SWO lt) {d d' : Array α} {a b i : Nat} (hab : a + 1 ≤ b) (hs : SortedIn lt (a + 1) b d) (h : Lo lt d a (a + 1) b i i) (hr : Rot d a (a + 1) i d') : SortedIn lt a b d' := by
  have hl := h.l
  have hr' := h.r
  have g1 : ∀ t, a ≤ t → t < i - 1 → d'[t]! = d[t + 1]! := fun t h1 h2 => by
    rw [hr.lo t h1 (by omega)]; congr 1; omega
  have g2 : d'[i - 1]! = d[a]! := by
    rw [hr.hi (i - 1) (by omega) (by omega)]; congr 1; omega
  have g3 : ∀ t, i ≤ t → d'[t]! = d[t]! := fun t h1 => hr.out t (Or.inr h1)
  intro p q hp hpq hq
  rcases Nat.lt_trichotomy q (i - 1) with e | e | e
  · rw [g1 q (by omega) e, g1 p hp (by omega)]
    exact hs _ _ (by omega) (by omega) (by omega)
  · subst e
    rw [g2, g1 p hp (by omega)]
    exact hS.asymmA (h.less (p + 1) (by omega) (by omega))
  · rw [g3 q (by omega)]
    rcases Nat.lt_trichotomy p (i - 1) with f | f | f
    · rw [g1 p hp f]
      exact hs _ _ (by omega) (by omega) (by omega)
    · subst f
      rw [g2]
      exact h.not q (by omega) hq
    · rw [g3 p (by omega)]
      exact hs _ _ (by omega) (by omega) (by omega)
theorem sorted_hi (hS : SWO lt) {d d' : Array α} {a m i : Nat} (ham : a ≤ m) (hs : SortedIn lt a m d) (h : Hi lt d m a m i i) (hr : Rot d i m (m + 1) d') : SortedIn lt a (m + 1) d' := by
  have hl := h.l
  have hr' := h.r
  have g1 : ∀ t, t < i → d'[t]! = d[t]! := fun t h1 => hr.out t (Or.inl h1)
  have g2 : d'[i]! = d[m]! := by
    rw [hr.lo i (by omega) (by omega)]; congr 1; omega
  have g3 : ∀ t, i < t → t ≤ m → d'[t]! = d[t - 1]! := fun t h1 h2 => by
    rw [hr.hi t (by omega) (by omega)]; congr 1; omega
  intro p q hp hpq hq
  rcases Nat.lt_trichotomy q i with e | e | e
  · rw [g1 q e, g1 p (by omega)]
    exact hs _ _ hp hpq (by omega)
  · subst e
    rw [g2, g1 p hpq]
    exact h.not p hp hpq
  · rw [g3 q e (by omega)]
    rcases Nat.lt_trichotomy p i with f | f | f
    · rw [g1 p f]
      exact hs _ _ (by omega) (by omega) (by omega)
    · subst f
      rw [g2]
      exact hS.asymmA (h.less (q - 1) (by omega) (by omega))
    · rw [g3 p f (by omega)]
      exact hs _ _ (by omega) (by omega) (by omega)

/-- Where the halves part: start is between lo and r; what is below may stay. -/
structure Mid (lt : α → α → Bool) (d : Array α) (p lo hi i j : Nat) : Prop where
  l : lo ≤ i
  m : i ≤ j
  r : j ≤ hi
  stay : ∀ t, lo ≤ t → t < i → lt d[p - t]! d[t]! = false
  go : ∀ t, j ≤ t → t < hi → lt d[p - t]! d[t]! = true
theorem Mid.start {d : Array α} {p lo hi : Nat} (h : lo ≤ hi) : Mid lt d p lo hi lo hi := ⟨Nat.le_refl _, h, Nat.le_refl _, fun t _ _ => by omega, fun t _ _ => by omega⟩
theorem Mid.no (hS : SWO lt) {d : Array α} {a m b p lo hi i j c : Nat} (h : Mid lt d p lo hi i j) (h1 : SortedIn lt a m d) (h2 : SortedIn lt m b d) (hlo : a ≤ lo) (hhi : hi ≤ m) (hb : p < lo + b) (hm : m + hi ≤ p + 1) (hc : i ≤ c) (hcj : c < j) (hl : lt d[p - c]! d[c]! = false) : Mid lt d p lo hi (c + 1) j :=
  ⟨by have := h.l; omega, by omega, h.r, fun t h3 h4 => by
    have hr := h.r
    rcases Nat.lt_or_ge t c with e | e
    · have k1 := h1 t c (by omega) e (by omega)
      have k2 := h2 (p - c) (p - t) (by omega) (by omega) (by omega)
      exact hS.ntrans _ _ _ k2 (hS.ntrans _ _ _ hl k1)
    · have : t = c := by omega
      subst this; exact hl, h.go⟩
theorem Mid.yes (hS : SWO lt) {d : Array α} {a m b p lo hi i j c : Nat} (h : Mid lt d p lo hi i j) (h1 : SortedIn lt a m d) (h2 : SortedIn lt m b d) (hlo : a ≤ lo) (hhi : hi ≤ m) (hb : p < lo + b) (hm : m + hi ≤ p + 1) (hc : i ≤ c) (hcj : c < j) (hl : lt d[p - c]! d[c]! = true) : Mid lt d p lo hi i c :=
  ⟨h.l, hc, by have := h.r; omega, h.stay, fun t h3 h4 => by
    have hl' := h.l
    have hr := h.r
    rcases Nat.lt_or_ge c t with e | e
    · cases hx : lt d[p - t]! d[t]! with
      | true => rfl
      | false =>
        have k1 := h1 c t (by omega) e (by omega)
        have k2 := h2 (p - t) (p - c) (by omega) (by omega) (by omega)
        have k3 := hS.ntrans _ _ _ k2 (hS.ntrans _ _ _ hx k1)
        rw [hl] at k3; cases k3
    · have : t = c := by omega
      subst this; exact hl⟩

/-- What is known behind the rotation. -/
structure Half (lt : α → α → Bool) (d d1 : Array α) (a s mid e b : Nat) : Prop where
  size : d1.size = d.size
  perm : PermIn a b d d1
  s1 : SortedIn lt a s d1
  s2 : SortedIn lt s mid d1
  s3 : SortedIn lt mid e d1
  s4 : SortedIn lt e b d1
  low : ∀ x y, a ≤ x → x < mid → mid ≤ y → y < b → lt d1[y]! d1[x]! = false

theorem half (hS : SWO lt) {d d1 : Array α} {a m b mid s : Nat} (ham : a < m) (hmb : m < b) (hb : b ≤ d.size) (hmid : a < mid ∧ mid < b) (h1 : SortedIn lt a m d) (h2 : SortedIn lt m b d)
    (hlo : a ≤ s) (hsb : mid + m ≤ s + b) (hsm : s ≤ m) (hs2 : s ≤ mid) (st : ∀ t, a ≤ t → t < s → mid + m - 1 < t + b → lt d[mid + m - 1 - t]! d[t]! = false) (go : ∀ t, s ≤ t → t < m → t < mid → lt d[mid + m - 1 - t]! d[t]! = true)
    (hr : Rot d s m (mid + m - s) d1) : Half lt d d1 a s mid (mid + m - s) b := by
  obtain ⟨e, he⟩ : ∃ e, e = mid + m - s := ⟨_, rfl⟩
  rw [← he] at hr ⊢
  have g1 : ∀ t, t < s → d1[t]! = d[t]! := fun t h => hr.out t (Or.inl h)
  have g2 : ∀ t, s ≤ t → t < mid → d1[t]! = d[t + (m - s)]! := fun t h h' => hr.lo t h (by omega)
  have g3 : ∀ t, mid ≤ t → t < e → d1[t]! = d[t - (mid - s)]! := fun t h h' => by
    rw [hr.hi t (by omega) (by omega)]; congr 1; omega
  have g4 : ∀ t, e ≤ t → d1[t]! = d[t]! := fun t h => hr.out t (Or.inr h)
  have hp : PermIn a b d d1 := permIn_mono d d1 s e a b hlo (by omega) hb (hr.perm (by omega) (by omega) (by omega))
  -- below start, behind end
  have k1 : ∀ x y, a ≤ x → x < s → e ≤ y → y < b → lt d[y]! d[x]! = false := fun x y hx hx' hy hy' => by
    have q1 := st (s - 1) (by omega) (by omega) (by omega)
    have e1 : mid + m - 1 - (s - 1) = e := by omega
    rw [e1] at q1
    have q2 : lt d[y]! d[e]! = false := by
      rcases Nat.lt_or_ge e y with f | f
      · exact h2 e y (by omega) f hy'
      · have : y = e := by omega
        subst this; exact hS.irrefl _
    have q3 : lt d[s - 1]! d[x]! = false := by
      rcases Nat.lt_or_ge x (s - 1) with f | f
      · exact h1 x (s - 1) hx f (by omega)
      · have : x = s - 1 := by omega
        subst this; exact hS.irrefl _
    exact hS.ntrans _ _ _ q2 (hS.ntrans _ _ _ q1 q3)
  -- behind m up to end, start up to m
  have k2 : ∀ x y, m ≤ x → x < e → s ≤ y → y < m → lt d[y]! d[x]! = false := fun x y hx hx' hy hy' => by
    by_cases hc : s < mid
    · have q1 := go s (Nat.le_refl _) (by omega) hc
      have e1 : mid + m - 1 - s = e - 1 := by omega
      rw [e1] at q1
      have q0 := hS.asymmA q1
      have q2 : lt d[y]! d[s]! = false ∨ True := Or.inr trivial
      have q3 : lt d[e - 1]! d[x]! = false := by
        rcases Nat.lt_or_ge x (e - 1) with f | f
        · exact h2 x (e - 1) hx f (by omega)
        · have : x = e - 1 := by omega
          subst this; exact hS.irrefl _
      have q4 : lt d[y]! d[s]! = false := by
        rcases Nat.lt_or_ge s y with f | f
        · exact h1 s y hlo f hy'
        · have : y = s := by omega
          subst this; exact hS.irrefl _
      exact hS.ntrans _ _ _ q4 (hS.ntrans _ _ _ q0 q3)
    · omega
  refine ⟨hr.size, hp, ?_, ?_, ?_, ?_, ?_⟩
  · intro p q hp hpq hq
    rw [g1 p (by omega), g1 q hq]; exact h1 _ _ hp hpq (by omega)
  · intro p q hp hpq hq
    rw [g2 p hp (by omega), g2 q (by omega) hq]; exact h2 _ _ (by omega) (by omega) (by omega)
  · intro p q hp hpq hq
    rw [g3 p hp (by omega), g3 q (by omega) hq]; exact h1 _ _ (by omega) (by omega) (by omega)
  · intro p q hp hpq hq
    rw [g4 p hp, g4 q (by omega)]; exact h2 _ _ (by omega) hpq hq
  · intro x y hx hx' hy hy'
    rcases Nat.lt_or_ge x s with f | f
    · rw [g1 x f]
      rcases Nat.lt_or_ge y e with f' | f'
      · rw [g3 y hy f']; exact h1 _ _ hx (by omega) (by omega)
      · rw [g4 y f']; exact k1 x y hx f f' hy'
    · rw [g2 x f hx']
      rcases Nat.lt_or_ge y e with f' | f'
      · rw [g3 y hy f']; exact k2 _ _ (by omega) (by omega) (by omega) (by omega)
      · rw [g4 y f']; exact h2 _ _ (by omega) (by omega) hy'

theorem half_end {d d1 d2 d3 : Array α} {a s mid e b : Nat} (hmid : a < mid ∧ mid < b) (hb : b ≤ d.size) (h : Half lt d d1 a s mid e b) (p2 : PermIn a mid d1 d2) (s2 : SortedIn lt a mid d2) (p3 : PermIn mid b d2 d3) (s3 : SortedIn lt mid b d3) : PermIn a b d d3 ∧ SortedIn lt a b d3 := by
  have hb1 : b ≤ d1.size := by rw [h.size]; exact hb
  have hb2 : b ≤ d2.size := by rw [p2.1]; exact hb1
  refine ⟨permIn_trans _ _ _ _ _ h.perm (permIn_trans _ _ _ _ _ (permIn_mono d1 d2 a mid a b (Nat.le_refl _) (by omega) hb1 p2) (permIn_mono d2 d3 mid b a b (by omega) (Nat.le_refl _) hb2 p3)), ?_⟩
  -- each of the left half is at most each of the right one
  have low2 : ∀ x y, a ≤ x → x < mid → mid ≤ y → y < b → lt d2[y]! d2[x]! = false := fun x y hx hx' hy hy' => by
    rw [p2.2.1 y (Or.inr hy)]
    exact permIn_all d1 d2 a mid (fun v => lt d1[y]! v = false) (by omega) p2 (fun i hi hi' => h.low i y hi hi' hy hy') x hx hx'
  have low3 : ∀ x y, a ≤ x → x < mid → mid ≤ y → y < b → lt d3[y]! d3[x]! = false := fun x y hx hx' hy hy' => by
    rw [p3.2.1 x (Or.inl hx')]
    exact permIn_all d2 d3 mid b (fun v => lt v d2[x]! = false) hb2 p3 (fun i hi hi' => low2 x i hx hx' hi hi') y hy hy'
  intro p q hp hpq hq
  rcases Nat.lt_or_ge q mid with f | f
  · rw [p3.2.1 p (Or.inl (by omega)), p3.2.1 q (Or.inl f)]; exact s2 p q hp hpq f
  · rcases Nat.lt_or_ge p mid with f' | f'
    · exact low3 p q hp f' f hq
    · exact s3 p q f' hpq hq

/-- A part that one permutes within a part stands as it was elsewhere. -/
theorem sorted_aside {d d' : Array α} {a b x y : Nat} (h : PermIn a b d d') (hs : SortedIn lt x y d) (ho : y ≤ a ∨ b ≤ x) : SortedIn lt x y d' := by
  intro p q hp hpq hq
  rw [h.2.1 p (by omega), h.2.1 q (by omega)]
  exact hs p q hp hpq hq

/-- From lo on the blocks of bs are sorted. -/
def Blks (lt : α → α → Bool) (bs lo n : Nat) (d : Array α) : Prop := ∀ s, lo ≤ s → s % bs = 0 → SortedIn lt s (min (s + bs) n) d
/-- Up to hi the blocks of bs are sorted. -/
def Blks' (lt : α → α → Bool) (bs hi n : Nat) (d : Array α) : Prop := ∀ s, s < hi → s % bs = 0 → SortedIn lt s (min (s + bs) n) d
theorem blks_all {bs n : Nat} {d : Array α} (h : Blks' lt bs n n d) : Blks lt bs 0 n d := fun s _ hs => by
  rcases Nat.lt_or_ge s n with f | f
  · exact h s f hs
  · intro p q hp hpq hq; omega
theorem blks_done {bs n : Nat} {d : Array α} (hn : n ≤ bs) (h : Blks lt bs 0 n d) : SortedIn lt 0 n d := by
  have := h 0 (Nat.le_refl _) (Nat.zero_mod _)
  rwa [Nat.zero_add, Nat.min_eq_right hn] at this
theorem mod_dbl {s bs : Nat} (h : s % (2 * bs) = 0) : s % bs = 0 ∧ (s + bs) % bs = 0 := by
  have h1 : s % bs = 0 := Nat.mod_eq_zero_of_dvd (Nat.dvd_trans (Nat.dvd_mul_left bs 2) (Nat.dvd_of_mod_eq_zero h))
  exact ⟨h1, by rw [Nat.add_mod_right]; exact h1⟩
theorem mod_gap {s a bs : Nat} (hs : s % bs = 0) (ha : a % bs = 0) (h1 : a < s) : a + bs ≤ s := by
  obtain ⟨u, rfl⟩ := Nat.dvd_of_mod_eq_zero hs
  obtain ⟨v, rfl⟩ := Nat.dvd_of_mod_eq_zero ha
  have : v < u := Nat.lt_of_mul_lt_mul_left h1
  rw [← Nat.mul_succ]
  exact Nat.mul_le_mul_left _ this
/-- One block more is sorted. -/
theorem blks_step {bs a n : Nat} {d d' : Array α} (ha : a % bs = 0) (h : Blks' lt bs a n d) (p : PermIn a (min (a + bs) n) d d') (hs : SortedIn lt a (min (a + bs) n) d') : Blks' lt bs (a + bs) n d' := fun s h1 h2 => by
  rcases Nat.lt_trichotomy s a with f | f | f
  · have := mod_gap ha h2 f
    exact sorted_aside p (h s f h2) (Or.inl (by omega))
  · subst f; exact hs
  · have := mod_gap h2 ha f
    omega
theorem blks_keep {bs a e n : Nat} {d d' : Array α} (h : Blks lt bs a n d) (p : PermIn a e d d') (he : a ≤ e) : Blks lt bs e n d' := fun s h1 h2 => sorted_aside p (h s (by omega) h2) (Or.inr h1)
end
end Go.Proofs.YtflapjehkgefdaaGreat
