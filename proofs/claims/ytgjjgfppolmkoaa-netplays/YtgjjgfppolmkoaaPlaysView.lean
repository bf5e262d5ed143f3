/- NetPlays: two nets and the document's two beside them, seen from one of them. -/
import Derived.Test.YtgjjgfppolmkoaaPlaysBase
namespace Go.Proofs.Ytgjjgfppolmkoaa
open Go.RowKit Go.Maps

def arr2 (on : Nat) (x y : Value) : Array Value := if on = 0 then #[x, y] else #[y, x]
def arr4 (on : Nat) (x u y v : Value) : Array Value := if on = 0 then #[x, u, y, v] else #[y, v, x, u]
def ptr (p : Nat) : Value := .pointer (some ⟨p, 0, none⟩)
def T6 (p m p' m' gd gl : Nat) : Nat → Prop := fun k => k = p ∨ k = m ∨ k = p' ∨ k = m' ∨ k = gd ∨ k = gl

structure View (base gd gl on : Nat) (w : World) (p m : Nat) (L : List Pk) (last : Nat) (a : Option Addr) (n c : Nat) (R : List Pk) (p' m' : Nat) (L' : List Pk) (last' : Nat) (a' : Option Addr) (n' c' : Nat) (R' : List Pk) : Prop where
  on2 : on < 2
  db : w.heap[gd]? = some (.cells (arr2 on (ptr p) (ptr p')) 38 (0, 0))
  lb : w.heap[gl]? = some (.cells (arr4 on (.slice a n c) (.int .i64 (last : Int)) (.slice a' n' c') (.int .i64 (last' : Int))) 41 (0, 0))
  sd : Side (T6 p m p' m' gd gl) w p m L last a n c R
  so : Side (T6 p m p' m' gd gl) w p' m' L' last' a' n' c' R'
  ne : p ≠ p' ∧ p ≠ m' ∧ m ≠ p' ∧ m ≠ m' ∧ p ≠ gd ∧ p ≠ gl ∧ m ≠ gd ∧ m ≠ gl ∧ p' ≠ gd ∧ p' ≠ gl ∧ m' ≠ gd ∧ m' ≠ gl ∧ gd ≠ gl
  bs : base ≤ p ∧ base ≤ m ∧ base ≤ p' ∧ base ≤ m' ∧ base ≤ gd ∧ base ≤ gl

section
variable {base gd gl on : Nat} {w : World} {p m : Nat} {L : List Pk} {last : Nat} {a : Option Addr} {n c : Nat} {R : List Pk} {p' m' : Nat} {L' : List Pk} {last' : Nat} {a' : Option Addr} {n' c' : Nat} {R' : List Pk}

theorem View.flip (h : View base gd gl on w p m L last a n c R p' m' L' last' a' n' c' R') : View base gd gl (1 - on) w p' m' L' last' a' n' c' R' p m L last a n c R := by
  have hon := h.on2
  have hT : ∀ k, T6 p' m' p m gd gl k → T6 p m p' m' gd gl k := fun k hk => by
    rcases hk with e | e | e | e | e | e <;> simp [T6, e]
  obtain ⟨n1, n2, n3, n4, n5, n6, n7, n8, n9, n10, n11, n12, n13⟩ := h.ne
  obtain ⟨b1, b2, b3, b4, b5, b6⟩ := h.bs
  refine ⟨by omega, ?_, ?_, h.so.other fun k _ hk => hT k hk, h.sd.other fun k _ hk => hT k hk, ⟨n1.symm, n3.symm, n2.symm, n4.symm, n9, n10, n11, n12, n5, n6, n7, n8, n13⟩, ⟨b3, b4, b1, b2, b5, b6⟩⟩
  · rw [h.db]
    rcases (show on = 0 ∨ on = 1 by omega) with rfl | rfl <;> rfl
  · rw [h.lb]
    rcases (show on = 0 ∨ on = 1 by omega) with rfl | rfl <;> rfl

theorem View.at (h : View base gd gl 0 w p m L last a n c R p' m' L' last' a' n' c' R') (i : Nat) (hi : i < 2) :
    ∃ p m L last a n c R p' m' L' last' a' n' c' R', View base gd gl i w p m L last a n c R p' m' L' last' a' n' c' R' := by
  rcases (show i = 0 ∨ i = 1 by omega) with rfl | rfl
  · exact ⟨_, _, _, _, _, _, _, _, _, _, _, _, _, _, _, _, h⟩
  · exact ⟨_, _, _, _, _, _, _, _, _, _, _, _, _, _, _, _, h.flip⟩

theorem View.zero {i : Nat} (h : View base gd gl i w p m L last a n c R p' m' L' last' a' n' c' R') :
    ∃ p m L last a n c R p' m' L' last' a' n' c' R', View base gd gl 0 w p m L last a n c R p' m' L' last' a' n' c' R' := by
  have hi := h.on2
  rcases (show i = 0 ∨ i = 1 by omega) with rfl | rfl
  · exact ⟨_, _, _, _, _, _, _, _, _, _, _, _, _, _, _, _, h⟩
  · exact ⟨_, _, _, _, _, _, _, _, _, _, _, _, _, _, _, _, h.flip⟩

theorem View.dlt (h : View base gd gl on w p m L last a n c R p' m' L' last' a' n' c' R') : gd < w.heap.size := (Array.getElem?_eq_some_iff.1 h.db).1
theorem View.llt (h : View base gd gl on w p m L last a n c R p' m' L' last' a' n' c' R') : gl < w.heap.size := (Array.getElem?_eq_some_iff.1 h.lb).1

theorem View.tlt (h : View base gd gl on w p m L last a n c R p' m' L' last' a' n' c' R') : ∀ k, T6 p m p' m' gd gl k → k < w.heap.size := fun k hk => by
  rcases hk with rfl | rfl | rfl | rfl | rfl | rfl
  · exact h.sd.net.lt
  · exact h.sd.net.own.lt
  · exact h.so.net.lt
  · exact h.so.net.own.lt
  · exact h.dlt
  · exact h.llt

theorem View.dcell (h : View base gd gl on w p m L last a n c R p' m' L' last' a' n' c' R') : w.cell? ⟨gd, on, none⟩ = some (ptr p) := by
  have hon := h.on2
  rw [cell_of_row _ gd on _ 38 (0, 0) h.db]
  rcases (show on = 0 ∨ on = 1 by omega) with rfl | rfl <;> rfl
theorem View.lcell0 (h : View base gd gl on w p m L last a n c R p' m' L' last' a' n' c' R') : w.cell? ⟨gl, on * 2, none⟩ = some (.slice a n c) := by
  have hon := h.on2
  rw [cell_of_row _ gl (on * 2) _ 41 (0, 0) h.lb]
  rcases (show on = 0 ∨ on = 1 by omega) with rfl | rfl <;> rfl
theorem View.lcell1 (h : View base gd gl on w p m L last a n c R p' m' L' last' a' n' c' R') : w.cell? ⟨gl, on * 2 + 1, none⟩ = some (.int .i64 (last : Int)) := by
  have hon := h.on2
  rw [cell_of_row _ gl (on * 2 + 1) _ 41 (0, 0) h.lb]
  rcases (show on = 0 ∨ on = 1 by omega) with rfl | rfl <;> rfl
theorem View.dfree (h : View base gd gl on w p m L last a n c R p' m' L' last' a' n' c' R') (i : Nat) : w.frozen? ⟨gd, i, none⟩ = false := by simp [World.frozen?, h.db]
theorem View.lfree (h : View base gd gl on w p m L last a n c R p' m' L' last' a' n' c' R') (i : Nat) : w.frozen? ⟨gl, i, none⟩ = false := by simp [World.frozen?, h.lb]

theorem lb_set {w : World} {gl on : Nat} {x u y v : Value} (hon : on < 2) (h : w.heap[gl]? = some (.cells (arr4 on x u y v) 41 (0, 0))) (x1 u1 : Value) :
    ((w.setCell ⟨gl, on * 2, none⟩ x1).setCell ⟨gl, on * 2 + 1, none⟩ u1).heap[gl]? = some (.cells (arr4 on x1 u1 y v) 41 (0, 0)) := by
  have h1 : (w.setCell ⟨gl, on * 2, none⟩ x1).heap[gl]? = some (.cells ((arr4 on x u y v).setIfInBounds (on * 2) x1) 41 (0, 0)) := by
    rw [setCell_eq_setRow w gl (on * 2) _ 41 (0, 0) _ h, setRow_heap w gl _ _ 41 _ h]
  rw [setCell_eq_setRow _ gl (on * 2 + 1) _ 41 (0, 0) _ h1, setRow_heap _ gl _ _ 41 _ h1]
  rcases (show on = 0 ∨ on = 1 by omega) with rfl | rfl <;> rfl

/-- The side that is seen is turned. -/
theorem View.step {wE : World} {L1 : List Pk} {last1 : Nat} {a1 : Option Addr} {n1 c1 : Nat} {R1 : List Pk} (h : View base gd gl on w p m L last a n c R p' m' L' last' a' n' c' R')
    (hk : Kp (fun k => k = p ∨ k = m ∨ k = gl ∨ w.heap.size ≤ k) w wE) (hsd : Side (T6 p m p' m' gd gl) wE p m L1 last1 a1 n1 c1 R1)
    (hlb : wE.heap[gl]? = some (.cells (arr4 on (.slice a1 n1 c1) (.int .i64 (last1 : Int)) (.slice a' n' c') (.int .i64 (last' : Int))) 41 (0, 0))) :
    View base gd gl on wE p m L1 last1 a1 n1 c1 R1 p' m' L' last' a' n' c' R' := by
  obtain ⟨m1, m2, m3, m4, m5, m6, m7, m8, m9, m10, m11, m12, m13⟩ := h.ne
  have hp' := h.so.net.lt
  have hm' := h.so.net.own.lt
  have hd := h.dlt
  refine ⟨h.on2, (hk.block gd hd (by omega)).trans h.db, hlb, hsd, h.so.kp hk (fun k hk' hS => ?_) (by omega) (by omega), h.ne, h.bs⟩
  rcases hS with e | e | e | e
  · simp [T6, e]
  · simp [T6, e]
  · simp [T6, e]
  · omega
end
end Go.Proofs.Ytgjjgfppolmkoaa
