/- What OrderTurned wants: plain parts. -/
import Derived.Test.YtflapjehkgefdaaTn
import Derived.Test.YtflapjehkgefdaaBg
namespace Go.Proofs.Ytflapjehkgefdaa
open Go.RowKit Go.Sort Go.Shelf
set_option linter.unusedVariables false
set_option linter.unusedSimpArgs false

/-- Pick's answer. -/
def pickP (x : Int) (n : Nat) : Nat := if x.tmod n < 0 then (x.tmod n + n).toNat else (x.tmod n).toNat
theorem pickP_lt (x : Int) {n : Nat} (hn : 0 < n) : pickP x n < n := by
  unfold pickP
  have h1 := Int.lt_tmod_of_pos x (show (0 : Int) < n by omega)
  have h2 := Int.tmod_lt_of_pos x (show (0 : Int) < n by omega)
  split <;> omega
theorem pickp_any (x : Int) (n : Nat) (w : World) (hn : 0 < n) (hn2 : n ≤ 4611686018427387904) :
    Calls Try.prog 10 #[.int .i64 x, .int .i64 n] w fun e w' => e = .returned (.int .i64 (pickP x n : Nat)) ∧ w' = w := by
  go_enter Try.func10, Try.ntmps10
  have h0 : ¬ (n : Int) < 1 := by omega
  go_wp2
  · rename_i hneg
    go_ret
    have h1 := Int.lt_tmod_of_pos x (show (0 : Int) < n by omega)
    refine ⟨ret_int ?_, rfl⟩
    unfold pickP
    rw [if_pos (by simpa using hneg)]
    simp [wrap64]
    omega
  · rename_i hpos
    go_ret
    have h1 := Int.tmod_lt_of_pos x (show (0 : Int) < n by omega)
    refine ⟨ret_int ?_, rfl⟩
    unfold pickP
    rw [if_neg (by simpa using hpos)]
    simp; omega

/-- A job, its dependencies nowhere. -/
def strip (J : Job) : Job := J.re none 0
theorem isq_map {α : Type} (pr id : α → Int) (pd : α → Bool) (f : α → α) (h1 : ∀ a, pr (f a) = pr a) (h2 : ∀ a, id (f a) = id a) (h3 : ∀ a, pd (f a) = pd a) {L : List α} {q : List Int} : IsQ pr id pd (L.map f) q ↔ IsQ pr id pd L q := by
  have hfm : (L.map f).filter pd = (L.filter pd).map f := by
    rw [List.filter_map]
    congr 1
    exact List.filter_congr fun a _ => h3 a
  have hq : ∀ a b, leQ pr id (f a) (f b) ↔ leQ pr id a b := fun a b => by unfold leQ; rw [h1, h1, h2, h2]
  constructor
  · rintro ⟨S, hp, hs, rfl⟩
    rw [hfm] at hp
    obtain ⟨S', hp', rfl⟩ := perm_map_inv f hp rfl
    refine ⟨S', hp', ?_, ?_⟩
    · unfold SortedQ at *
      rw [List.pairwise_map] at hs
      exact hs.imp fun {a b} h => (hq a b).1 h
    · rw [List.map_map]; exact List.map_congr_left fun a _ => h2 a
  · rintro ⟨S, hp, hs, rfl⟩
    refine ⟨S.map f, by rw [hfm]; exact hp.map f, ?_, ?_⟩
    · unfold SortedQ at *
      rw [List.pairwise_map]
      exact hs.imp fun {a b} h => (hq a b).2 h
    · rw [List.map_map]; exact (List.map_congr_left fun a _ => h2 a).symm
theorem reJ_strip : ∀ {M M' : List (Job × List Dp)}, ReJ M M' → (M'.map (·.1)).map strip = (M.map (·.1)).map strip
  | [], [], _ => rfl
  | p :: r, q :: t, h => by
    obtain ⟨⟨x, y, e⟩, _, h2⟩ := h
    simp only [List.map_cons]
    rw [reJ_strip h2, e]
    rfl
  | [], q :: t, h => h.elim
  | p :: r, [], h => h.elim
theorem isq_strip {Z : List Int} {N : List (Prt × List ByteArray)} {A : List Acc} {Q : List Qu} {pol : Int} {L : List Job} {q : List Int} : IsQ (prQ Z N A Q pol) (·.id) pend (L.map strip) q ↔ IsQ (prQ Z N A Q pol) (·.id) pend L q :=
  isq_map (prQ Z N A Q pol) (·.id) pend strip (fun _ => rfl) (fun _ => rfl) (fun _ => rfl)
theorem isq_re {Z : List Int} {N : List (Prt × List ByteArray)} {A : List Acc} {Q : List Qu} {pol : Int} {M M' : List (Job × List Dp)} (h : ReJ M M') {q : List Int} : IsQ (prQ Z N A Q pol) (·.id) pend (M'.map (·.1)) q ↔ IsQ (prQ Z N A Q pol) (·.id) pend (M.map (·.1)) q := by
  rw [← isq_strip, reJ_strip h, isq_strip]
theorem unlike_re {M M' : List (Job × List Dp)} (h : ReJ M M') (hu : Unlike (·.id) (M.map (·.1))) : Unlike (·.id) (M'.map (·.1)) := by
  have e : ((M'.map (·.1)).map strip).map (·.id) = ((M.map (·.1)).map strip).map (·.id) := by rw [reJ_strip h]
  have f : ∀ L : List Job, (L.map strip).map (·.id) = L.map (·.id) := fun L => by rw [List.map_map]; rfl
  rw [f, f] at e
  have g : ∀ L : List Job, Unlike (·.id) L ↔ (L.map (·.id)).Pairwise (· ≠ ·) := fun L => by unfold Unlike; rw [List.pairwise_map]
  rw [g, e, ← g]
  exact hu

theorem jat_tail {w : World} {b o : Nat} {x : Job} {L : List Job} (h : JAt w (some ⟨b, o, none⟩) (x :: L)) : JAt w (some ⟨b, o + 17, none⟩) L := by
  intro hne
  obtain ⟨b', o', e, hc⟩ := h (by rw [List.flatMap_cons]; intro e; have := congrArg List.length e; rw [List.length_append, jc_len] at this; simp at this)
  have e2 : b' = b ∧ o' = o := by injection e with e1; injection e1 with e3 e4; exact ⟨e3.symm, e4.symm⟩
  obtain ⟨rfl, rfl⟩ := e2
  refine ⟨b', o' + 17, rfl, fun i hi => ?_⟩
  have h1 : 17 + i < ((x :: L).flatMap jc).length := by rw [List.flatMap_cons, List.length_append, jc_len]; omega
  have h2 := hc (17 + i) h1
  rw [show o' + 17 + i = o' + (17 + i) by omega, h2]
  congr 1
  simp only [List.flatMap_cons]
  rw [List.getElem_append_right (by rw [jc_len]; omega)]
  congr 1
  rw [jc_len]; omega
theorem below_setCells {B : Nat} {a : World} {g : Nat} (hg : B ≤ g) : ∀ (cs : List Value) (o : Nat) {w : World}, Below B a w → Below B a (w.setCells g o cs)
  | [], _, _, h => h
  | v :: r, o, _, h => below_setCells hg r (o + 1) (h.setCell hg v)

section
variable [Inhabited Job]
theorem arr_job (l : List Job) {i : Nat} (h : i < l.length) : l.toArray[i]! = jobAt l i := by
  rw [getElem!_pos l.toArray i (by simpa using h), ← jobAt_eq h]
  simp
theorem ownj_holds {w : World} {base g n c m : Nat} {l : List Job} (h : w.ownsRow base 40 17 (.slice (some ⟨g, 0, none⟩) m c) n (l.flatMap jc)) : HoldsK jc 17 w g 0 l.toArray := by
  have hat : JAt w (some ⟨g, 0, none⟩) l := owns_cat h
  have hfz : ∀ r, w.frozen? ⟨g, r, none⟩ = false := fun r => by
    rcases h.2 with ⟨e, _⟩ | ⟨g', cap, cur, e, _, hh, _⟩
    · cases e
    · have : g' = g := by injection e with e1 e2 e3; injection e1 with e4; injection e4 with e5; exact e5.symm
      subst this
      exact row_free hh r
  intro j hj
  rw [size_flatK] at hj
  have hj2 : j < l.length * 17 := by simpa using hj
  have hi : j / 17 < l.length := by omega
  refine ⟨?_, by rw [Nat.zero_add]; exact hfz j⟩
  rw [get_flatK _ _ _ j hj, arr_job l hi, Nat.zero_add]
  have hc := hat.cell hi (j % 17) (by omega)
  rw [Nat.zero_add, show j / 17 * 17 + j % 17 = j by omega] at hc
  rw [hc, getElem!_pos (jc (jobAt l (j / 17))) (j % 17) (by rw [jc_len]; omega)]
  rfl
theorem jat_of {w : World} {g : Nat} {d : Array Job} (h : HoldsK jc 17 w g 0 d) : JAt w (some ⟨g, 0, none⟩) d.toList := by
  intro _
  refine ⟨g, 0, rfl, fun j hj => ?_⟩
  have hlen := flat_len jc 17 jc_len d.toList
  have hi : j / 17 < d.toList.length := by omega
  have hi2 : j / 17 < d.size := by simpa using hi
  have hg := flat_get jc 17 jc_len d.toList (j / 17) (j % 17) hi (by omega)
  rw [show j / 17 * 17 + j % 17 = j by omega, List.getElem?_eq_getElem hj] at hg
  have hc := HoldsK.cells h jc_len hi2
  have hr : (jc d[j / 17]!)[j % 17]? = some (d.toList.flatMap jc)[j] := by
    rw [getElem!_pos d (j / 17) hi2]
    rw [hg]
    simp
  have := hc (j % 17) _ hr
  rw [Addr.add_mid, Nat.zero_add, show j / 17 * 17 + j % 17 = j by omega] at this
  rw [Nat.zero_add]
  exact this
theorem range_of {w : World} {g : Nat} {d : Array Job} (h : HoldsK jc 17 w g 0 d) {i : Nat} (hi : i < d.size) : w.rangeAt g (i * 17) (jc d[i]!) := by
  have hj := jat_of h
  have := hj.range (i := i) (by simpa using hi)
  rw [Nat.zero_add] at this
  rw [getElem!_pos d i hi]
  rw [← jobAt_eq (by simpa using hi)] at this
  simpa using this
theorem there_of {w : World} {g : Nat} {d : Array Job} (h : HoldsK jc 17 w g 0 d) {i : Nat} (hi : i < d.size) : w.there g (i * 17) 17 := fun r hr => by
  have := h (i * 17 + r) (by rw [size_flatK]; have := Nat.mul_le_mul_right 17 (show i + 1 ≤ d.size from hi); omega)
  rw [Nat.zero_add] at this
  exact ⟨by rw [this.1]; rfl, this.2⟩
theorem there_set {w : World} {g : Nat} {d : Array Job} (h : HoldsK jc 17 w g 0 d) {x y : Nat} (hx : x < d.size) (hy : y < d.size) (J : Job) : (w.setCells g (x * 17) (jc J)).there g (y * 17) 17 := fun r hr => by
  have hh := holds_setCells_c h (x * 17) (jc J) (by rw [jc_len, size_flatK]; have := Nat.mul_le_mul_right 17 (show x + 1 ≤ d.size from hx); omega)
  rw [Nat.zero_add] at hh
  have := hh (y * 17 + r) (by rw [size_setMany, size_flatK]; have := Nat.mul_le_mul_right 17 (show y + 1 ≤ d.size from hy); omega)
  rw [Nat.zero_add] at this
  exact ⟨by rw [this.1]; rfl, this.2⟩
theorem swp_list {d : Array Job} {x y : Nat} (hx : x < d.size) (hy : y < d.size) : (swp d x y).toList.Perm d.toList := by
  have h := swp_permIn d 0 d.size x y (Nat.zero_le _) hx (Nat.zero_le _) hy (Nat.le_refl _)
  have := h.2.2
  rw [Array.extract_eq_self_of_le (by rw [h.1]; exact Nat.le_refl _), Array.extract_eq_self_of_le (Nat.le_refl _)] at this
  exact this
/-- The copied jobs while they change places. -/
def PJs (base : Nat) (W4 W5 : World) (ra : Option Addr) (k : Nat) (L0 : List Job) (wr : World) : Prop :=
  Below base W4 wr ∧ (k = 0 ∨ ∃ (g : Nat) (d : Array Job), ra = some ⟨g, 0, none⟩ ∧ base ≤ g ∧ d.size = k ∧ d.toList.Perm L0 ∧ SWK jc 17 W5 g 0 d wr)
theorem pj_step {base k g x y : Nat} {W4 W5 wr : World} {L0 : List Job} {d d0 : Array Job} (hb : Below base W4 wr) (hg : base ≤ g) (hk : d.size = k) (hp : d.toList.Perm L0) (hS : SWK jc 17 W5 g 0 d wr) (R : RowK jc 17 W5 g 0 d0) (hx : x < k) (hy : y < k) :
    PJs base W4 W5 (some ⟨g, 0, none⟩) k L0 ((wr.drew.setCells g (x * 17) (jc d[y]!)).setCells g (y * 17) (jc d[x]!)) := by
  have h := hS.swapped R x y (by omega) (by omega)
  rw [Nat.zero_add, Nat.zero_add] at h
  exact ⟨below_setCells hg _ _ (below_setCells hg _ _ hb.drew), Or.inr ⟨g, swp d x y, rfl, hg, by rw [swp_size]; exact hk, (swp_list (by omega) (by omega)).trans hp, h⟩⟩
/-- What the copied jobs are in the end. -/
theorem pj_end {base k : Nat} {W4 W5 wr : World} {ra : Option Addr} {L0 : List Job} {d0 : Array Job} (h : PJs base W4 W5 ra k L0 wr) (hR : ∀ g, ra = some ⟨g, 0, none⟩ → RowK jc 17 W5 g 0 d0) (hd : d0.size = k) (hL : L0.length = k) : ∃ L2 : List Job, L2.length = k ∧ L2.Perm L0 ∧ JAt wr ra L2 := by
  rcases h.2 with h0 | ⟨g, d, e, hg, hk, hp, hS⟩
  · exact ⟨L0, hL, List.Perm.refl _, by rw [List.eq_nil_of_length_eq_zero (hL.trans h0)]; exact CAt.nil _ _⟩
  · subst e
    have R := hR g rfl
    exact ⟨d.toList, by simpa using hk, hp, jat_of (hS.holds R.hblk R.hH (by omega))⟩
end
end Go.Proofs.Ytflapjehkgefdaa
