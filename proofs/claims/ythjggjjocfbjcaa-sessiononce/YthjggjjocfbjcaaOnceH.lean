/- SessionOnce: the law's world while it is being made. -/
import Derived.Test.YthjggjjocfbjcaaOnceT
namespace Go.Proofs.Ythjggjjocfbjcaa
open Go.RowKit

def nilV : Value := .slice none 0 0

def warrG (lv : Value) (A : Nat → AV) (tv bv : Value) (rv : Nat → Value) (ctr : Int) : Array Value :=
  #[lv, .int .i64 (A 0).id, .int .i64 (A 0).next, .int .i64 (A 0).acked, (A 0).wv, .int .i64 (A 1).id, .int .i64 (A 1).next, .int .i64 (A 1).acked, (A 1).wv,
    .int .i64 (A 2).id, .int .i64 (A 2).next, .int .i64 (A 2).acked, (A 2).wv, .int .i64 (A 3).id, .int .i64 (A 3).next, .int .i64 (A 3).acked, (A 3).wv, tv, bv,
    rv 0, rv 1, rv 2, rv 3, rv 4, rv 5, rv 6, rv 7, .int .i64 ctr]

def WG (w : World) (g : Nat) (A : Nat → AV) (rv : Nat → Value) : Prop := w.heap[g]? = some (.cells (warrG nilV A nilV nilV rv 0) 65 (0, 0))

section
variable {w : World} {g : Nat} {A : Nat → AV} {rv : Nat → Value}
theorem WG.lt (h : WG w g A rv) : g < w.heap.size := (Array.getElem?_eq_some_iff.1 h).1
theorem WG.kp {S : Nat → Prop} {w' : World} (h : WG w g A rv) (hk : Kp S w w') (hn : ¬ S g) : WG w' g A rv := by unfold WG; rw [hk.block g h.lt hn]; exact h
theorem WG.free (h : WG w g A rv) (j : Nat) : w.frozen? ⟨g, j, none⟩ = false := by unfold WG at h; simp [World.frozen?, h]
theorem WG.cell (h : WG w g A rv) (j : Nat) : w.cell? ⟨g, j, none⟩ = (warrG nilV A nilV nilV rv 0)[j]? := cell_of_row _ g j _ 65 (0, 0) h
theorem WG.a0 (h : WG w g A rv) (k : Nat) (hk : k < 4) : w.cell? ⟨g, 1 + k * 4, none⟩ = some (.int .i64 (A k).id) := by
  rw [h.cell]; rcases (show k = 0 ∨ k = 1 ∨ k = 2 ∨ k = 3 by omega) with rfl | rfl | rfl | rfl <;> rfl
theorem WG.a1 (h : WG w g A rv) (k : Nat) (hk : k < 4) : w.cell? ⟨g, 1 + k * 4 + 1, none⟩ = some (.int .i64 (A k).next) := by
  rw [h.cell]; rcases (show k = 0 ∨ k = 1 ∨ k = 2 ∨ k = 3 by omega) with rfl | rfl | rfl | rfl <;> rfl
theorem WG.a2 (h : WG w g A rv) (k : Nat) (hk : k < 4) : w.cell? ⟨g, 1 + k * 4 + 2, none⟩ = some (.int .i64 (A k).acked) := by
  rw [h.cell]; rcases (show k = 0 ∨ k = 1 ∨ k = 2 ∨ k = 3 by omega) with rfl | rfl | rfl | rfl <;> rfl
theorem WG.a3 (h : WG w g A rv) (k : Nat) (hk : k < 4) : w.cell? ⟨g, 1 + k * 4 + 3, none⟩ = some (A k).wv := by
  rw [h.cell]; rcases (show k = 0 ∨ k = 1 ∨ k = 2 ∨ k = 3 by omega) with rfl | rfl | rfl | rfl <;> rfl
theorem WG.d (h : WG w g A rv) (k : Nat) (hk : k < 4) : w.cell? ⟨g, 19 + k, none⟩ = some (rv k) := by
  rw [h.cell]; rcases (show k = 0 ∨ k = 1 ∨ k = 2 ∨ k = 3 by omega) with rfl | rfl | rfl | rfl <;> rfl
theorem WG.f (h : WG w g A rv) (k : Nat) (hk : k < 4) : w.cell? ⟨g, 23 + k, none⟩ = some (rv (4 + k)) := by
  rw [h.cell]; rcases (show k = 0 ∨ k = 1 ∨ k = 2 ∨ k = 3 by omega) with rfl | rfl | rfl | rfl <;> rfl
theorem WG.setCell (h : WG w g A rv) (j : Nat) (v : Value) : (w.setCell ⟨g, j, none⟩ v).heap[g]? = some (.cells ((warrG nilV A nilV nilV rv 0).setIfInBounds j v) 65 (0, 0)) := by
  rw [setCell_eq_setRow w g j _ 65 (0, 0) _ h, setRow_heap w g _ _ 65 _ h]
theorem WG.setD (h : WG w g A rv) (k : Nat) (hk : k < 4) (v : Value) : WG (w.setCell ⟨g, 19 + k, none⟩ v) g A (upd rv k v) := by
  unfold WG
  rw [h.setCell]
  rcases (show k = 0 ∨ k = 1 ∨ k = 2 ∨ k = 3 by omega) with rfl | rfl | rfl | rfl <;> rfl
theorem WG.setF (h : WG w g A rv) (k : Nat) (hk : k < 4) (v : Value) : WG (w.setCell ⟨g, 23 + k, none⟩ v) g A (upd rv (4 + k) v) := by
  unfold WG
  rw [h.setCell]
  rcases (show k = 0 ∨ k = 1 ∨ k = 2 ∨ k = 3 by omega) with rfl | rfl | rfl | rfl <;> rfl
theorem WG.setA (h : WG w g A rv) (k : Nat) (hk : k < 4) (x : AV) :
    WG ((((w.setCell ⟨g, 1 + k * 4, none⟩ (.int .i64 x.id)).setCell ⟨g, 1 + k * 4 + 1, none⟩ (.int .i64 x.next)).setCell ⟨g, 1 + k * 4 + 2, none⟩ (.int .i64 x.acked)).setCell ⟨g, 1 + k * 4 + 3, none⟩ x.wv) g (upd A k x) rv := by
  have h1 := h.setCell (1 + k * 4) (.int .i64 x.id)
  have h2 := (setRow_heap _ g _ ((((warrG nilV A nilV nilV rv 0).setIfInBounds (1 + k * 4) (.int .i64 x.id))).setIfInBounds (1 + k * 4 + 1) (.int .i64 x.next)) 65 (0, 0) h1)
  rw [← setCell_eq_setRow _ g (1 + k * 4 + 1) _ 65 (0, 0) _ h1] at h2
  have h3 := (setRow_heap _ g _ (((((warrG nilV A nilV nilV rv 0).setIfInBounds (1 + k * 4) (.int .i64 x.id))).setIfInBounds (1 + k * 4 + 1) (.int .i64 x.next)).setIfInBounds (1 + k * 4 + 2) (.int .i64 x.acked)) 65 (0, 0) h2)
  rw [← setCell_eq_setRow _ g (1 + k * 4 + 2) _ 65 (0, 0) _ h2] at h3
  unfold WG
  rw [setCell_eq_setRow _ g (1 + k * 4 + 3) _ 65 (0, 0) _ h3, setRow_heap _ g _ _ 65 _ h3]
  rcases (show k = 0 ∨ k = 1 ∨ k = 2 ∨ k = 3 by omega) with rfl | rfl | rfl | rfl <;> rfl
end

def zerosN (n : Nat) : List Int := List.replicate n 0
def zeros : List Int := zerosN 250
def firstA (i : Nat) : AV := ⟨(i : Int) + 1, 1, 0, none, 0, []⟩

/-- j clients are made. -/
structure HI (base g j : Nat) (w : World) (A : Nat → AV) (rv : Nat → Value) (rb : Nat → Nat) : Prop where
  gb : base ≤ g
  blk : WG w g A rv
  aks : ∀ i, i < j → A i = firstA i
  rows : ∀ i, i < j → rv i = rowV (rb i) ∧ rv (4 + i) = rowV (rb (4 + i)) ∧ IR w (rb i) zeros ∧ IR w (rb (4 + i)) zeros ∧ base ≤ rb i ∧ base ≤ rb (4 + i)
  inj : ∀ i i', i % 4 < j → i' % 4 < j → i < 8 → i' < 8 → rb i = rb i' → i = i'

theorem HI.below {base g j : Nat} {w w' : World} {A : Nat → AV} {rv : Nat → Value} {rb : Nat → Nat} (h : HI base g j w A rv rb) (hb : Below w.heap.size w w') : HI base g j w' A rv rb := by
  have hk : Kp (fun _ => False) w w' := Kp.of_below hb
  refine ⟨h.gb, h.blk.kp hk fun h => h, h.aks, fun i hi => ?_, h.inj⟩
  obtain ⟨h1, h2, h3, h4, h5, h6⟩ := h.rows i hi
  exact ⟨h1, h2, h3.kp hk fun h => h, h4.kp hk fun h => h, h5, h6⟩

theorem HI.lt {base g j : Nat} {w : World} {A : Nat → AV} {rv : Nat → Value} {rb : Nat → Nat} (h : HI base g j w A rv rb) (i : Nat) (hi : i % 4 < j) (h8 : i < 8) : rb i < w.heap.size ∧ IR w (rb i) zeros ∧ base ≤ rb i := by
  rcases (show i < 4 ∨ 4 ≤ i by omega) with h4 | h4
  · obtain ⟨h1, h2, h3, h4, h5, h6⟩ := h.rows i (by omega)
    exact ⟨h3.lt, h3, h5⟩
  · obtain ⟨h1, h2, h3, h4', h5, h6⟩ := h.rows (i - 4) (by omega)
    rw [show 4 + (i - 4) = i by omega] at h4' h6
    exact ⟨h4'.lt, h4', h6⟩

/-- A client's asker is stored. -/
theorem HI.setA {base g j : Nat} {w : World} {A : Nat → AV} {rv : Nat → Value} {rb : Nat → Nat} (h : HI base g j w A rv rb) (hj : j < 4) (x : AV) :
    HI base g j ((((w.setCell ⟨g, 1 + j * 4, none⟩ (.int .i64 x.id)).setCell ⟨g, 1 + j * 4 + 1, none⟩ (.int .i64 x.next)).setCell ⟨g, 1 + j * 4 + 2, none⟩ (.int .i64 x.acked)).setCell ⟨g, 1 + j * 4 + 3, none⟩ x.wv) (upd A j x) rv rb := by
  have hk : Kp (fun i => i = g) w ((((w.setCell ⟨g, 1 + j * 4, none⟩ (.int .i64 x.id)).setCell ⟨g, 1 + j * 4 + 1, none⟩ (.int .i64 x.next)).setCell ⟨g, 1 + j * 4 + 2, none⟩ (.int .i64 x.acked)).setCell ⟨g, 1 + j * 4 + 3, none⟩ x.wv) :=
    ((((Kp.refl (fun i => i = g) w).setCell (p := ⟨g, 1 + j * 4, none⟩) rfl _).setCell (p := ⟨g, 1 + j * 4 + 1, none⟩) rfl _).setCell (p := ⟨g, 1 + j * 4 + 2, none⟩) rfl _).setCell (p := ⟨g, 1 + j * 4 + 3, none⟩) rfl _
  refine ⟨h.gb, h.blk.setA j hj x, fun i hi => by rw [upd_other A x (by omega)]; exact h.aks i hi, fun i hi => ?_, h.inj⟩
  obtain ⟨h1, h2, h3, h4, h5, h6⟩ := h.rows i hi
  exact ⟨h1, h2, h3.kp hk (ty_ne h3.2 h.blk (by omega)), h4.kp hk (ty_ne h4.2 h.blk (by omega)), h5, h6⟩

/-- Its two rows are stored. -/
theorem HI.next {base g j : Nat} {w w' : World} {A : Nat → AV} {rv : Nat → Value} {rb : Nat → Nat} (h : HI base g j w A rv rb) (hj : j < 4) (hA : A j = firstA j) (hk : Kp (fun i => i = g) w w') (x y : Nat) (hx : w.heap.size ≤ x) (hy : w.heap.size ≤ y) (hxy : x ≠ y) (hbase : base ≤ w.heap.size)
    (hX : IR w' x zeros) (hY : IR w' y zeros) (hblk : WG w' g A (upd (upd rv j (rowV x)) (4 + j) (rowV y))) : HI base g (j + 1) w' A (upd (upd rv j (rowV x)) (4 + j) (rowV y)) (upd (upd rb j x) (4 + j) y) := by
  refine ⟨h.gb, hblk, fun i hi => ?_, fun i hi => ?_, fun i i' hi hi' h8 h8' => ?_⟩
  · by_cases e : i = j
    · rw [e]; exact hA
    · exact h.aks i (by omega)
  · by_cases e : i = j
    · subst e
      rw [upd_same, upd_same, upd_other _ _ (show i ≠ 4 + i by omega), upd_other _ _ (show i ≠ 4 + i by omega), upd_same, upd_same]
      exact ⟨rfl, rfl, hX, hY, by omega, by omega⟩
    · obtain ⟨h1, h2, h3, h4, h5, h6⟩ := h.rows i (by omega)
      rw [upd_other _ _ (show i ≠ 4 + j by omega), upd_other _ _ e, upd_other _ _ (show 4 + i ≠ 4 + j by omega), upd_other _ _ (show 4 + i ≠ j by omega), upd_other _ _ (show i ≠ 4 + j by omega), upd_other _ _ e, upd_other _ _ (show 4 + i ≠ 4 + j by omega), upd_other _ _ (show 4 + i ≠ j by omega)]
      exact ⟨h1, h2, h3.kp hk (ty_ne h3.2 h.blk (by omega)), h4.kp hk (ty_ne h4.2 h.blk (by omega)), h5, h6⟩
  · have old : ∀ i, i % 4 < j + 1 → i < 8 → (i = j ∧ upd (upd rb j x) (4 + j) y i = x) ∨ (i = 4 + j ∧ upd (upd rb j x) (4 + j) y i = y) ∨ (i % 4 < j ∧ upd (upd rb j x) (4 + j) y i = rb i ∧ rb i < w.heap.size) := fun i hi h8 => by
      by_cases e1 : i = 4 + j
      · right; left; exact ⟨e1, by rw [e1, upd_same]⟩
      · by_cases e2 : i = j
        · left; exact ⟨e2, by rw [upd_other _ _ e1, e2, upd_same]⟩
        · right; right
          have : i % 4 < j := by omega
          exact ⟨this, by rw [upd_other _ _ e1, upd_other _ _ e2], (h.lt i this h8).1⟩
    intro e
    rcases old i hi h8 with ⟨a1, a2⟩ | ⟨a1, a2⟩ | ⟨a1, a2, a3⟩ <;> rcases old i' hi' h8' with ⟨b1, b2⟩ | ⟨b1, b2⟩ | ⟨b1, b2, b3⟩ <;> rw [a2, b2] at e
    · omega
    · exact absurd e hxy
    · omega
    · exact absurd e.symm hxy
    · omega
    · omega
    · omega
    · omega
    · exact h.inj i i' a1 b1 h8 h8' e

/-- All four: the law's world stands. -/
theorem HI.os {base g : Nat} {w : World} {A : Nat → AV} {rv : Nat → Value} {rb : Nat → Nat} (h : HI base g 4 w A rv rb) : OS base g w none 0 [] firstA nilV [] nilV [] rb (fun _ => zeros) 0 := by
  have hb : WB w g nilV firstA nilV nilV rb 0 := by
    have h1 := h.blk
    unfold WG warrG at h1
    rw [h.aks 0 (by omega), h.aks 1 (by omega), h.aks 2 (by omega), h.aks 3 (by omega), (h.rows 0 (by omega)).1, (h.rows 1 (by omega)).1, (h.rows 2 (by omega)).1, (h.rows 3 (by omega)).1,
      show rv 4 = _ from (h.rows 0 (by omega)).2.1, show rv 5 = _ from (h.rows 1 (by omega)).2.1, show rv 6 = _ from (h.rows 2 (by omega)).2.1, show rv 7 = _ from (h.rows 3 (by omega)).2.1] at h1
    exact h1
  exact ⟨h.gb, hb, LAt.nil _ _, ⟨fun e => absurd rfl e, by simp⟩, fun _ _ => KAt.nil _ _, fun _ _ => ⟨fun e => absurd rfl e, by simp [firstA]⟩, QR.nil _ _ _, QR.nil _ _ _, fun i hi => ⟨(h.lt i (by omega) hi).2.1, (h.lt i (by omega) hi).2.2⟩, fun i i' hi hi' e => h.inj i i' (by omega) (by omega) hi hi' e⟩

theorem op_begin : OP 0 [] firstA [] [] (fun _ => zeros) 0 := by
  have hz : rowF zeros = fun _ => 0 := by
    funext r
    have key : ∀ m : Nat, (zerosN m).getD r.toNat 0 = 0 := fun m => by
      unfold zerosN
      rw [List.getD_eq_getElem?_getD, List.getElem?_replicate]
      split <;> rfl
    unfold rowF
    split
    · exact key 250
    · rfl
  refine ⟨⟨by simp, trivial, by simp, by simp, by simp, by simp, by simp⟩, by simp, fun k hk => ?_, fun k hk => by simp [firstA], by simp, by simp, by omega, fun k hk r => ?_, by simp, by simp⟩
  · rw [hz]
    exact CI.begin_ ((k : Int) + 1) (by unfold MM; omega)
  · rw [hz]; simp

end Go.Proofs.Ythjggjjocfbjcaa
