/- Times in their order, plain; the document's way of adding describes the same cuts. -/
import Derived.Test.YticlpjpbjgfgmaaRef
namespace Go.Proofs.Yticlpjpbjgfgmaa
open Go.RowKit

def gd (L : List Int) (i : Nat) : Int := L.getD i 0
def Has (L : List Int) (x : Int) : Prop := ∃ i, i < L.length ∧ gd L i = x
def swap (L : List Int) (k : Nat) : List Int := (L.set k (gd L (k - 1))).set (k - 1) (gd L k)

theorem gd_set (L : List Int) (i : Nat) (v : Int) (h : i < L.length) (j : Nat) : gd (L.set i v) j = if j = i then v else gd L j := by
  unfold gd
  simp only [List.getD_eq_getElem?_getD, List.getElem?_set]
  by_cases e : i = j
  · subst e; simp [h]
  · rw [if_neg e, if_neg (fun h => e h.symm)]

theorem swap_len (L : List Int) (k : Nat) : (swap L k).length = L.length := by simp [swap]

theorem gd_swap (L : List Int) (k : Nat) (h0 : 0 < k) (h : k < L.length) (j : Nat) : gd (swap L k) j = if j = k - 1 then gd L k else if j = k then gd L (k - 1) else gd L j := by
  unfold swap
  rw [gd_set _ _ _ (by simp; omega), gd_set _ _ _ h]

theorem has_swap (L : List Int) (k : Nat) (h0 : 0 < k) (h : k < L.length) (x : Int) : Has (swap L k) x ↔ Has L x := by
  constructor
  · rintro ⟨i, h1, h2⟩
    rw [swap_len] at h1
    rw [gd_swap L k h0 h] at h2
    split at h2
    · exact ⟨k, h, h2⟩
    · split at h2
      · exact ⟨k - 1, by omega, h2⟩
      · exact ⟨i, h1, h2⟩
  · rintro ⟨i, h1, h2⟩
    by_cases e1 : i = k
    · refine ⟨k - 1, by rw [swap_len]; omega, ?_⟩
      rw [gd_swap L k h0 h, if_pos rfl, ← e1]; exact h2
    · by_cases e2 : i = k - 1
      · refine ⟨k, by rw [swap_len]; omega, ?_⟩
        rw [gd_swap L k h0 h, if_neg (by omega), if_pos rfl, ← e2]; exact h2
      · refine ⟨i, by rw [swap_len]; omega, ?_⟩
        rw [gd_swap L k h0 h, if_neg e2, if_neg e1]; exact h2

/-- The first i rise. -/
def SortTo (L : List Int) (i : Nat) : Prop := ∀ p q, p < q → q < i → gd L p ≤ gd L q

structure Inner (L : List Int) (i k : Nat) : Prop where
  le : k ≤ i
  rest : ∀ p q, p < q → q ≤ i → q ≠ k → p ≠ k → gd L p ≤ gd L q
  low : ∀ q, k < q → q ≤ i → gd L k ≤ gd L q

theorem SortTo.inner {L : List Int} {i : Nat} (h : SortTo L i) : Inner L i i := ⟨Nat.le_refl _, fun p q h1 h2 h3 _ => h p q h1 (by omega), fun q h1 h2 => by omega⟩

theorem Inner.done {L : List Int} {i k : Nat} (h : Inner L i k) (hd : k = 0 ∨ gd L (k - 1) ≤ gd L k) : SortTo L (i + 1) := by
  intro p q h1 h2
  by_cases e1 : p = k
  · subst e1; exact h.low q h1 (by omega)
  · by_cases e2 : q = k
    · subst e2
      rcases hd with e | e
      · omega
      · by_cases e3 : p = q - 1
        · rw [e3]; exact e
        · have := h.rest p (q - 1) (by omega) (by omega) (by omega) e1
          omega
    · exact h.rest p q h1 (by omega) e2 e1

theorem Inner.step {L : List Int} {i k : Nat} (h : Inner L i k) (h0 : 0 < k) (hi : i < L.length) (hd : gd L k < gd L (k - 1)) : Inner (swap L k) i (k - 1) := by
  have hk : k < L.length := by have := h.le; omega
  have G := gd_swap L k h0 hk
  refine ⟨by have := h.le; omega, fun p q h1 h2 h3 h4 => ?_, fun q h1 h2 => ?_⟩
  · rw [G p, G q, if_neg h4, if_neg h3]
    by_cases e1 : q = k
    · rw [if_pos e1, if_neg (by omega)]
      exact h.rest p (k - 1) (by omega) (by have := h.le; omega) (by omega) (by omega)
    · rw [if_neg e1]
      by_cases e2 : p = k
      · rw [if_pos e2]
        exact h.rest (k - 1) q (by omega) h2 e1 (by omega)
      · rw [if_neg e2]
        exact h.rest p q h1 h2 e1 e2
  · rw [G (k - 1), G q, if_pos rfl, if_neg (by omega)]
    by_cases e1 : q = k
    · rw [if_pos e1]; omega
    · rw [if_neg e1]; exact h.low q (by omega) h2

/-- The times that matter. -/
def T0 (C : List Cut) (a b : Int) (j : Nat) : List Int := a :: b :: (C.take j).map (·.1)

theorem T0_len (C : List Cut) (a b : Int) {j : Nat} (h : j ≤ C.length) : (T0 C a b j).length = j + 2 := by
  unfold T0; simp; omega

theorem T0_snoc {C : List Cut} (a b : Int) {j : Nat} (h : j < C.length) : T0 C a b (j + 1) = T0 C a b j ++ [tm C j] := by
  unfold T0
  rw [take_more h, List.map_append]
  simp [← tm_eq h]

/-- S has the times of C, a and b, in their order. -/
structure Tms (C : List Cut) (a b : Int) (S : List Int) : Prop where
  sort : SortTo S S.length
  len : S.length = C.length + 2
  has : ∀ x, Has S x ↔ Has (T0 C a b C.length) x

theorem gd_T0 {C : List Cut} {a b : Int} {k : Nat} (h : k < C.length) : gd (T0 C a b C.length) (k + 2) = tm C k := by
  unfold gd T0
  rw [List.take_length]
  simp [List.getD, h, ← tm_eq h]

theorem Tms.a {C : List Cut} {a b : Int} {S : List Int} (h : Tms C a b S) : Has S a := (h.has a).2 ⟨0, by rw [T0_len C a b (Nat.le_refl _)]; omega, rfl⟩
theorem Tms.b {C : List Cut} {a b : Int} {S : List Int} (h : Tms C a b S) : Has S b := (h.has b).2 ⟨1, by rw [T0_len C a b (Nat.le_refl _)]; omega, rfl⟩
theorem Tms.c {C : List Cut} {a b : Int} {S : List Int} (h : Tms C a b S) {k : Nat} (hk : k < C.length) : Has S (tm C k) := (h.has _).2 ⟨k + 2, by rw [T0_len C a b (Nat.le_refl _)]; omega, gd_T0 hk⟩

theorem Tms.only {C : List Cut} {a b : Int} {S : List Int} (h : Tms C a b S) {i : Nat} (hi : i < S.length) : gd S i = a ∨ gd S i = b ∨ ∃ k, k < C.length ∧ gd S i = tm C k := by
  obtain ⟨j, h1, h2⟩ := (h.has (gd S i)).1 ⟨i, hi, rfl⟩
  rw [T0_len C a b (Nat.le_refl _)] at h1
  match j, h1, h2 with
  | 0, _, h2 => exact .inl h2.symm
  | 1, _, h2 => exact .inr (.inl h2.symm)
  | k + 2, h1, h2 =>
    rw [gd_T0 (by omega)] at h2
    exact .inr (.inr ⟨k, by omega, h2.symm⟩)

theorem Tms.bd {C : List Cut} {a b : Int} {S : List Int} (h : Tms C a b S) (hr : RightP C) (hw : winP a b) {i : Nat} (hi : i < S.length) : 0 ≤ gd S i ∧ gd S i ≤ 2199023255552 := by
  have h1 := hw.1
  have h2 := hw.2.1
  have h3 := hw.2.2
  rcases h.only hi with e | e | ⟨k, hk, e⟩
  · omega
  · omega
  · have := hr.tm_nonneg hk
    have := (hr.2.2.2 k hk).1
    omega

theorem Tms.first {C : List Cut} {a b : Int} {S : List Int} (h : Tms C a b S) (hr : RightP C) (hw : winP a b) : gd S 0 = 0 := by
  obtain ⟨j, h1, h2⟩ := h.c hr.1
  rw [hr.2.2.1] at h2
  have h3 := (h.bd hr hw (show 0 < S.length by omega)).1
  rcases Nat.eq_zero_or_pos j with e | e
  · rw [← e]; exact h2
  · have := h.sort 0 j e h1; omega

/-- No time lies between. -/
theorem Tms.gap {C : List Cut} {a b : Int} {S : List Int} (h : Tms C a b S) {i : Nat} (hi : i < S.length) {t : Int} (hn : i + 1 < S.length → t < gd S (i + 1)) {y : Int} (hy : Has S y) (hx : gd S i < y) : t < y := by
  obtain ⟨j, h1, h2⟩ := hy
  rcases Nat.lt_trichotomy j i with h3 | h3 | h3
  · have := h.sort j i h3 hi; omega
  · rw [h3] at h2; omega
  · have h4 := hn (by omega)
    rcases Nat.eq_or_lt_of_le (show i + 1 ≤ j by omega) with e | e
    · rw [e] at h4; omega
    · have := h.sort (i + 1) j e h1; omega

theorem Tms.const {C : List Cut} {a b n : Int} {S : List Int} (h : Tms C a b S) (hr : RightP C) (hw : winP a b) {i : Nat} (hi : i < S.length) {t : Int} (ht : gd S i ≤ t) (hn : i + 1 < S.length → t < gd S (i + 1)) : gv C a b n t = gv C a b n (gd S i) := by
  have G := fun y hy hx => h.gap hi hn (y := y) hy hx
  have hb := h.bd hr hw hi
  obtain ⟨K, hK⟩ := find hr.1 hr.2.2.1 hb.1
  have e1 := val_in hr.rise hK
  have e2 := val_in hr.rise (show In C K t from ⟨hK.1, by have := hK.2.1; omega, fun h1 => G _ (h.c h1) (hK.2.2 h1)⟩)
  have ea : a ≤ t ↔ a ≤ gd S i := by
    constructor
    · intro h1
      rcases Int.lt_or_le (gd S i) a with h2 | h2
      · have := G a h.a h2; omega
      · exact h2
    · intro h1; omega
  have eb : t < b ↔ gd S i < b := by
    constructor
    · intro h1; omega
    · intro h1; exact G b h.b h1
  unfold gv
  rw [e1, e2]
  simp only [ea, eb]

/-- Up to where the cuts are told ahead of the time i. -/
def upTo (S : List Int) (i : Nat) : Int := if i = 0 then 0 else gd S (i - 1) + 1

theorem Tms.step {C : List Cut} {a b n : Int} {S : List Int} (h : Tms C a b S) (hr : RightP C) (hw : winP a b) {i : Nat} (hi : i < S.length) {o : List Cut} (D : Ds (gv C a b n) (o, false) (upTo S i)) (hv : isV (gv C a b n (gd S i))) : Ds (gv C a b n) (putL o (gd S i) (gv C a b n (gd S i)), false) (upTo S (i + 1)) := by
  have hb := h.bd hr hw hi
  have hup : upTo S (i + 1) = gd S i + 1 := by unfold upTo; rw [if_neg (by omega), Nat.add_sub_cancel]
  have hq : ∀ s : List Cut × Bool, s.2 = false → putS s (gd S i) (gv C a b n (gd S i)) = (putL s.1 (gd S i) (gv C a b n (gd S i)), false) := by
    intro s hs
    unfold putS
    rw [hs, decide_eq_true hv]
    rfl
  rw [hup]
  rcases Nat.eq_zero_or_pos i with e | e
  · subst e
    have e0 := h.first hr hw
    have : upTo S 0 = gd S 0 := by rw [e0]; rfl
    rw [this] at D
    have := D.put hb.1 rfl
    rw [hq _ rfl] at this
    exact this
  · have hu : upTo S i = gd S (i - 1) + 1 := by unfold upTo; rw [if_neg (by omega)]
    rw [hu] at D
    have hle := h.sort (i - 1) i (by omega) hi
    have hb2 := h.bd hr hw (show i - 1 < S.length by omega)
    rcases Int.lt_or_le (gd S (i - 1)) (gd S i) with h1 | h1
    · have D2 := D.ext (E' := gd S i) (by omega) (by omega) (fun t t1 t2 => by
        rw [show gd S (i - 1) + 1 - 1 = gd S (i - 1) by omega]
        refine h.const hr hw (by omega) (by omega) fun _ => ?_
        rw [show i - 1 + 1 = i by omega]; exact t2)
      have := D2.put hb.1 rfl
      rw [hq _ rfl] at this
      exact this
    · have e2 : gd S (i - 1) = gd S i := by omega
      rw [e2] at D
      have := D.again hb.1
      rw [hq _ rfl] at this
      rw [this]
      exact D

theorem Tms.last {C : List Cut} {a b n : Int} {S : List Int} (h : Tms C a b S) (hr : RightP C) (hw : winP a b) {o : List Cut} (D : Ds (gv C a b n) (o, false) (upTo S S.length)) : addP C a b n = (o, false) := by
  have hl := h.len
  have hu : upTo S S.length = gd S (S.length - 1) + 1 := by unfold upTo; rw [if_neg (by omega)]
  rw [hu] at D
  have hb := h.bd hr hw (show S.length - 1 < S.length by omega)
  have D2 := D.ext (E' := 2199023255553) (by omega) (by omega) (fun t t1 t2 => by
    rw [show gd S (S.length - 1) + 1 - 1 = gd S (S.length - 1) by omega]
    exact h.const hr hw (by omega) (by omega) fun h1 => by omega)
  exact (add_ds hr hw.1 hw.2.1 hw.2.2).uniq D2

theorem Tms.over {C : List Cut} {a b n : Int} {S : List Int} (h : Tms C a b S) (hr : RightP C) (hw : winP a b) {i : Nat} (hi : i < S.length) (hv : ¬ isV (gv C a b n (gd S i))) : (addP C a b n).2 = true := by
  have hb := h.bd hr hw hi
  exact (add_ds hr hw.1 hw.2.1 hw.2.2).over.2 ⟨gd S i, hb.1, by omega, hv⟩

theorem putL_len (o : List Cut) (x v : Int) : (putL o x v).length ≤ o.length + 1 := by
  unfold putL
  split
  · simp
  · omega

/-- Times in a row of the call's own. -/
def I (x : Int) : Value := .int .i64 x
def TOwn (w : World) (base : Nat) (v : Value) (L : List Int) : Prop := w.ownsRow base 2 1 v L.length (L.map I)

theorem info2 : (Try.prog.info? 2).map (fun i => (i.zero, i.size, i.bytes)) = some (some (.int .i64 0), 1, 8) := by kernel_rfl

theorem TOwn.set {w : World} {base g n cap : Nat} {l : List Int} (h : TOwn w base (.slice (some ⟨g, 0, none⟩) n cap) l) (hl : l.length = n) (i : Nat) (x : Int) :
    TOwn (w.setCell ⟨g, i, none⟩ (.int .i64 x)) base (.slice (some ⟨g, 0, none⟩) n cap) (l.set i x) := by
  subst hl
  unfold TOwn at *
  have := (World.ownsRow.stored h i (I x)).1
  rw [List.length_set, List.map_set]
  exact this

theorem TOwn.free {w : World} {base g n cap : Nat} {l : List Int} (h : TOwn w base (.slice (some ⟨g, 0, none⟩) n cap) l) (hl : l.length = n) (i : Nat) : w.frozen? ⟨g, i, none⟩ = false := by
  subst hl; exact World.ownsRow.frozenAt h i

theorem TOwn.cellAt {w : World} {base g n cap : Nat} {l : List Int} (h : TOwn w base (.slice (some ⟨g, 0, none⟩) n cap) l) (hl : l.length = n) (i : Nat) (hi : i < n) : w.cell? ⟨g, i, none⟩ = some (.int .i64 (gd l i)) := by
  subst hl
  have := World.ownsRow.cellAt h i (by omega)
  rw [this]
  simp [hi, I, gd]

theorem TOwn.below {w w' : World} {base : Nat} {v : Value} {C : List Int} (h : TOwn w base v C) (hb : Below w.heap.size w w') : TOwn w' base v C := owns_below h hb

theorem TOwn.lit (w : World) (a b : Int) : TOwn (w.alloc (.cells #[.int .i64 a, .int .i64 b] 2)) w.heap.size (.slice (some ⟨w.heap.size, 0, none⟩) 2 2) [a, b] := by
  refine ⟨rfl, .inr ⟨w.heap.size, 2, #[.int .i64 a, .int .i64 b], rfl, Nat.le_refl _, heap_alloc_new w _, Nat.le_refl _, ?_, rfl, rfl⟩⟩
  unfold maxLen; omega

theorem TOwn.form {w : World} {base : Nat} {v : Value} {L : List Int} (h : TOwn w base v L) (h0 : 0 < L.length) : ∃ g c, v = .slice (some ⟨g, 0, none⟩) L.length c ∧ L.length ≤ c ∧ base ≤ g ∧ g < w.heap.size := by
  rcases h.2 with ⟨_, hn⟩ | ⟨g, cap, cur, rfl, hb, hg, hc, _⟩
  · omega
  · exact ⟨g, cap, rfl, hc, hb, (Array.getElem?_eq_some_iff.1 hg).1⟩

/-- Rows of unlike kinds lie apart. -/
theorem rows_off {w : World} {base base' e e' size size' m m' : Nat} {v v' : Value} {xs xs' : List Value} (h : w.ownsRow base e size v m xs) (hr : w.ownsRow base' e' size' v' m' xs') (he : e ≠ e') :
    ∀ k, v.ownBlock = some k → v'.ownBlock ≠ some k := by
  intro k hk ev
  rcases h.2 with ⟨hv, _⟩ | ⟨g, cap, cur, hv, _, hg, _⟩
  · rw [hv] at hk; cases hk
  · rcases hr.2 with ⟨hv', _⟩ | ⟨g', cap', cur', hv', _, hg', _⟩
    · rw [hv'] at ev; cases ev
    · rw [hv] at hk
      rw [hv'] at ev
      have e1 : g = k := Option.some.inj hk
      have e2 : g' = k := Option.some.inj ev
      subst e1; subst e2
      exact block_ne hg hg' he rfl

end Go.Proofs.Yticlpjpbjgfgmaa
