/- The first fit, plain: which nodes are open, what is left of their spans, when the next one opens. -/
import Derived.Test.YtilncacmkfohdaaGreatPfTimes
import Derived.Test.YtilncacmkfohdaaGreatPfNdFirst
namespace Go.Proofs.YtilncacmkfohdaaGreat.Pf
open Nd (cnt lst lstk lowk ofN firstP)

abbrev maxT : Int := 1099511627776

/-- The nodes that are open for an ask at t. -/
def opn (P : List (List Cut)) (A : AskP) (t : Int) : Nat := gset A.nodes (fun k => !(shutB (P.getD k []) k A t)) P.length

theorem gset_congr {s : Nat} {b c : Nat → Bool} {n : Nat} (h : ∀ k, k < n → s.testBit k = true → b k = c k) : gset s b n = gset s c n := by
  unfold gset
  congr 1
  refine List.filter_congr fun k hk => ?_
  rw [List.mem_range] at hk
  cases hb : s.testBit k
  · rfl
  · rw [h k hk hb]

theorem cnt_mono {a b : Nat} (h : ∀ i, i < 32 → a.testBit i = true → b.testBit i = true) : cnt a ≤ cnt b := by
  unfold cnt lst lstk
  rw [← List.countP_eq_length_filter, ← List.countP_eq_length_filter]
  refine List.countP_mono_left fun i hi => ?_
  rw [List.mem_range] at hi
  exact h i hi

/-- What is told of the first fit. -/
def FitIs (P : List (List Cut)) (A : AskP) (t : Int) (on : Nat) (e : Int) : Prop :=
  (e = 0 ∧ A.fr ≤ t ∧ t ≤ maxT ∧ A.count ≤ (cnt (opn P A t) : Int) ∧ on = lowk (opn P A t) A.count.toNat 32 ∧ ∀ u, A.fr ≤ u → u < t → (cnt (opn P A u) : Int) < A.count) ∨
  (e = 120 ∧ t = 0 ∧ on = 0 ∧ ∀ u, A.fr ≤ u → u ≤ maxT → (cnt (opn P A u) : Int) < A.count)
def FitR (P : List (List Cut)) (A : AskP) (t : Int) (on : Nat) (e : Int) : Prop := (RightPr P ∧ RightAsk A ∧ FitIs P A t on e) ∨ (¬ (RightPr P ∧ RightAsk A) ∧ t = 0 ∧ on = 0 ∧ e = 2)

theorem FitIs.uniq {P : List (List Cut)} {A : AskP} {t t' : Int} {on on' : Nat} {e e' : Int} (h : FitIs P A t on e) (k : FitIs P A t' on' e') : t = t' ∧ on = on' ∧ e = e' := by
  rcases h with ⟨h1, h2, h3, h4, h5, h6⟩ | ⟨h1, h2, h3, h4⟩ <;> rcases k with ⟨k1, k2, k3, k4, k5, k6⟩ | ⟨k1, k2, k3, k4⟩
  · have : t = t' := by
      rcases Int.lt_trichotomy t t' with h7 | h7 | h7
      · have := k6 t h2 h7; omega
      · exact h7
      · have := h6 t' k2 h7; omega
    subst this
    exact ⟨rfl, by rw [h5, k5], by rw [h1, k1]⟩
  · have := k4 t h2 h3; omega
  · have := h4 t' k2 k3; omega
  · exact ⟨by omega, by omega, by omega⟩

theorem FitR.uniq {P : List (List Cut)} {A : AskP} {t t' : Int} {on on' : Nat} {e e' : Int} (h : FitR P A t on e) (k : FitR P A t' on' e') : t = t' ∧ on = on' ∧ e = e' := by
  rcases h with ⟨h1, h2, h3⟩ | ⟨h1, h2, h3, h4⟩ <;> rcases k with ⟨k1, k2, k3⟩ | ⟨k1, k2, k3, k4⟩
  · exact h3.uniq k3
  · exact absurd ⟨h1, h2⟩ k1
  · exact absurd ⟨k1, k2⟩ h1
  · exact ⟨by omega, by omega, by omega⟩

/-- From t on the spans tell when a node is not open. -/
def GoodM (P : List (List Cut)) (A : AskP) (t : Int) (M : List Sl1) : Prop := ∀ i x, M[i]? = some x → Apart x.L ∧ ∀ u, t ≤ u → u ≤ maxT → (HoldsT x.L u ↔ shutB (P.getD i []) i A u = true)

def tl (M : List Sl1) (t : Int) (k : Nat) : Int × Bool := match M[k]? with
  | some x => till (ah t x.L) t
  | none => (0, false)
def nxT (M : List Sl1) (s : Nat) (t : Int) : Nat → Int
  | 0 => 9223372036854775807
  | k + 1 => if s.testBit k = true ∧ (tl M t k).2 = true then min (nxT M s t k) (tl M t k).1 else nxT M s t k

/-- The spans of the nodes of s below k are gone on to t. -/
def Upd (M : List Sl1) (s : Nat) (t : Int) (k : Nat) (M' : List Sl1) : Prop := M'.length = M.length ∧ ∀ i x', M'[i]? = some x' → ∃ x, M[i]? = some x ∧ x'.L = if i < k ∧ s.testBit i = true then ah t x.L else x.L

theorem Upd.zero (M : List Sl1) (s : Nat) (t : Int) : Upd M s t 0 M := ⟨rfl, fun i x h => ⟨x, h, by rw [if_neg (by omega)]⟩⟩
theorem Upd.skip {M : List Sl1} {s : Nat} {t : Int} {k : Nat} {M' : List Sl1} (h : Upd M s t k M') (hs : s.testBit k = false) : Upd M s t (k + 1) M' := by
  refine ⟨h.1, fun i x' hx => ?_⟩
  obtain ⟨x, h1, h2⟩ := h.2 i x' hx
  refine ⟨x, h1, ?_⟩
  rw [h2]
  by_cases hi : i = k
  · subst hi
    rw [if_neg (by omega), if_neg (by rw [hs]; simp)]
  · by_cases hc : i < k ∧ s.testBit i = true
    · rw [if_pos hc, if_pos ⟨by omega, hc.2⟩]
    · rw [if_neg hc, if_neg fun h => hc ⟨by omega, h.2⟩]
theorem Upd.put {M : List Sl1} {s : Nat} {t : Int} {k : Nat} {M' : List Sl1} (h : Upd M s t k M') (hs : s.testBit k = true) {x y : Sl1} (hx : M[k]? = some x) (hy : y.L = ah t x.L) : Upd M s t (k + 1) (M'.set k y) := by
  refine ⟨by rw [List.length_set]; exact h.1, fun i x' hx' => ?_⟩
  by_cases hi : k = i
  · subst hi
    rw [List.getElem?_set_self (by rw [h.1]; exact (List.getElem?_eq_some_iff.1 hx).1)] at hx'
    cases hx'
    exact ⟨x, hx, by rw [if_pos ⟨by omega, hs⟩]; exact hy⟩
  · rw [List.getElem?_set_ne hi] at hx'
    obtain ⟨z, h1, h2⟩ := h.2 i x' hx'
    refine ⟨z, h1, ?_⟩
    rw [h2]
    by_cases hc : i < k ∧ s.testBit i = true
    · rw [if_pos hc, if_pos ⟨by omega, hc.2⟩]
    · rw [if_neg hc, if_neg fun h => hc ⟨by omega, h.2⟩]

section
variable {P : List (List Cut)} {A : AskP} {t : Int} {M : List Sl1} {s : Nat}

theorem GoodM.tl (h : GoodM P A t M) (h1 : t ≤ maxT) {k : Nat} {x : Sl1} (hx : M[k]? = some x) :
    ((tl M t k).2 = true ↔ shutB (P.getD k []) k A t = true) ∧ ((tl M t k).2 = true → t < (tl M t k).1 ∧ ∀ u, t ≤ u → u < (tl M t k).1 → u ≤ maxT → shutB (P.getD k []) k A u = true) := by
  obtain ⟨ha, hh⟩ := h k x hx
  have ht := till_is (ah_apart (t := t) ha) (fun s N e => ah_head e)
  have e : YtilncacmkfohdaaGreat.Pf.tl M t k = till (ah t x.L) t := by unfold YtilncacmkfohdaaGreat.Pf.tl; rw [hx]
  rw [e]
  refine ⟨ht.1.trans ((ah_holds (Int.le_refl _)).trans (hh t (Int.le_refl _) h1)), fun h2 => ?_⟩
  obtain ⟨h3, h4⟩ := ht.2 h2
  exact ⟨h3, fun u hu1 hu2 hu3 => (hh u hu1 hu3).1 ((ah_holds hu1).1 (h4 u hu1 hu2))⟩

theorem nxT_le (k n : Nat) (h1 : s.testBit k = true) (h2 : (tl M t k).2 = true) (hk : k < n) : nxT M s t n ≤ (tl M t k).1 := by
  induction n with
  | zero => omega
  | succ n ih =>
    unfold nxT
    rcases Nat.lt_or_ge k n with h3 | h3
    · have := ih h3
      split <;> omega
    · have e : k = n := by omega
      subst e
      rw [if_pos ⟨h1, h2⟩]
      omega

theorem GoodM.nx (h : GoodM P A t M) (h1 : t ≤ maxT) : ∀ n, n ≤ M.length → t < nxT M s t n ∧ nxT M s t n ≤ 9223372036854775807 := by
  intro n
  induction n with
  | zero => intro _; exact ⟨by unfold nxT; simp only [maxT] at h1; omega, by unfold nxT; omega⟩
  | succ n ih =>
    intro hn
    obtain ⟨h2, h3⟩ := ih (by omega)
    have hx : M[n]? = some M[n] := List.getElem?_eq_getElem (by omega)
    have ht := (h.tl h1 hx).2
    unfold nxT
    split
    · rename_i hc
      have := (ht hc.2).1
      omega
    · exact ⟨h2, h3⟩

theorem GoodM.open_ (h : GoodM P A t M) (h1 : t ≤ maxT) (hl : M.length = P.length) : opn P A t = gset A.nodes (fun k => !(YtilncacmkfohdaaGreat.Pf.tl M t k).2) P.length := by
  unfold opn
  refine gset_congr fun k hk _ => ?_
  have hx : M[k]? = some M[k] := List.getElem?_eq_getElem (by omega)
  have := (h.tl h1 hx).1
  congr 1
  rw [Bool.eq_iff_iff]
  exact this.symm

/-- Ahead of the first end no time has more open nodes. -/
theorem GoodM.less (h : GoodM P A t M) (hl : M.length = P.length) {u : Int} (h2 : t ≤ u) (h3 : u < nxT M A.nodes t P.length) (h4 : u ≤ maxT) : cnt (opn P A u) ≤ cnt (opn P A t) := by
  refine cnt_mono fun i _ hb => ?_
  unfold opn at hb ⊢
  rw [gset_bit] at hb ⊢
  simp only [Bool.and_eq_true, decide_eq_true_eq, Bool.not_eq_true'] at hb ⊢
  obtain ⟨h5, h6, h7⟩ := hb
  refine ⟨h5, h6, ?_⟩
  cases hs : shutB (P.getD i []) i A t
  · rfl
  · have hx : M[i]? = some M[i] := List.getElem?_eq_getElem (by omega)
    have ht := h.tl (by omega) hx
    have hb := ht.1.2 hs
    have hle := nxT_le (M := M) (t := t) i P.length h6 hb h5
    have := (ht.2 hb).2 u h2 (by omega) h4
    rw [this] at h7
    cases h7

theorem GoodM.upd (h : GoodM P A t M) {k : Nat} {M' : List Sl1} (hu : Upd M s t k M') {u : Int} (h2 : t ≤ u) : GoodM P A u M' := by
  intro i x' hx'
  obtain ⟨x, hx, he⟩ := hu.2 i x' hx'
  obtain ⟨h3, h4⟩ := h i x hx
  by_cases hc : i < k ∧ s.testBit i = true
  · rw [if_pos hc] at he
    rw [he]
    exact ⟨ah_apart h3, fun v hv1 hv2 => (ah_holds (by omega)).trans (h4 v (by omega) hv2)⟩
  · rw [if_neg hc] at he
    rw [he]
    exact ⟨h3, fun v hv1 hv2 => h4 v (by omega) hv2⟩
end

theorem good_first {L : List Nd1} {A : AskP} {M : List Sl1} (hr : RightPr (cutsOf L)) (hA : RightAsk A) (hM : M.length = L.length) (h : ClosedOf L A M) : GoodM (cutsOf L) A A.fr M := by
  intro i x hx
  have hJ := h i x hx
  have hi : i < L.length := by rw [← hM]; exact (List.getElem?_eq_some_iff.1 hx).1
  have hrC : RightP ((cutsOf L).getD i []) := hr.2.2 _ (by rw [cutsOf_get hi]; exact List.mem_map.2 ⟨_, List.getElem_mem hi, rfl⟩)
  refine ⟨hJ.1, fun u h1 h2 => (hJ.2.1 u).trans (shut_raw hrC hA i ?_ h2).symm⟩
  have := hA.2.2.2.1.1
  omega

end Go.Proofs.YtilncacmkfohdaaGreat.Pf
