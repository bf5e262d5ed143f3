/- Least and Fit of the program. -/
import Derived.Test.YticlpjpbjgfgmaaAt
namespace Go.Proofs.Yticlpjpbjgfgmaa
open Go.RowKit

theorem least1 (b e f fm to v V : Int) (g0 g1 g2 : Nat) (w : World) (h0 : One w g0 (.int .i64 to) 2) (h1 : One w g1 (.int .i64 fm) 2) (h2 : One w g2 (.int .i64 v) 3) (hV : V = if b < to ∧ fm < e then min v f else v) :
    Calls Try.prog 60 #[.int .i64 b, .int .i64 e, .int .i64 f, ptr g0, ptr g1, ptr g2] w fun x w' => x = .returned (.tuple #[]) ∧ One w' g2 (.int .i64 V) 3 ∧ Kp (fun k => k = g2) w w' := by
  have c0 := h0.cell
  have c1 := h1.cell
  have c2 := h2.cell
  have c3 := h2.free
  unfold ptr
  by_cases k1 : b < to
  · have d1 : decide (b < to) = true := decide_eq_true k1
    by_cases k2 : fm < e
    · have d2 : decide (fm < e) = true := decide_eq_true k2
      rw [if_pos ⟨k1, k2⟩] at hV
      rcases Int.lt_or_le v f with k3 | k3
      · rw [Int.min_eq_left (by omega)] at hV
        subst hV
        go_enter Try.func60, Try.ntmps60
        go_wp2
        go_end0
        exact ⟨rfl, h2.set _, kp_one _⟩
      · rw [Int.min_eq_right k3] at hV
        rcases Int.lt_or_le f v with k4 | k4
        rotate_left
        · have k5 : f = v := by omega
          subst k5
          subst hV
          clear k3 k4
          go_enter Try.func60, Try.ntmps60
          go_wp2
          go_end0
          exact ⟨rfl, h2.set _, kp_one _⟩
        subst hV
        go_enter Try.func60, Try.ntmps60
        go_wp2
        go_end0
        exact ⟨rfl, h2.set _, kp_one _⟩
    · have d2 : decide (fm < e) = false := decide_eq_false k2
      rw [if_neg fun h => k2 h.2] at hV
      subst hV
      go_enter Try.func60, Try.ntmps60
      go_wp2
      go_end0
      exact ⟨rfl, h2, Kp.refl _ _⟩
  · have d1 : decide (b < to) = false := decide_eq_false k1
    rw [if_neg fun h => k1 h.1] at hV
    subst hV
    go_enter Try.func60, Try.ntmps60
    go_wp2
    go_end0
    exact ⟨rfl, h2, Kp.refl _ _⟩

/-- What Least tells. -/
abbrev lsP (C : List Cut) (a b : Int) : Prop := RightP C ∧ winP a b
def lsA (C : List Cut) (a b : Int) : Int × Int := if lsP C a b then (lsT C a b C.length, 0) else (0, 2)

theorem winB_iff {a b : Int} : winB a b = true ↔ winP a b := by simp [winB]
theorem winB_no {a b : Int} (h : ¬ winP a b) : winB a b = false := decide_eq_false h

set_option maxRecDepth 100000 in
theorem least_any (a : Option Addr) (n c : Nat) (C : List Cut) (p q : Int) (w : World) (hn : C.length = n) (hl : n ≤ 4611686018427387904) (hat : SAt w a C) :
    Calls Try.prog 33 #[.slice a n c, .int .i64 p, .int .i64 q] w fun e w' => e = .returned (.tuple #[.int .i64 (lsA C p q).1, .int .i64 (lsA C p q).2]) ∧ Below w.heap.size w w' := by
  replace hn := hid hn
  replace hat := hid hat
  have b0 := two_new w (.cells #[.int .i64 p] 2) (.cells #[.int .i64 q] 2)
  have o0 := (One.new w (.int .i64 p) 2).below (below_lit _ (.cells #[.int .i64 q] 2))
  have q0 := One.new (w.alloc (.cells #[.int .i64 p] 2)) (.int .i64 q) 2
  have kR := right_any a n c C ((w.alloc (.cells #[.int .i64 p] 2)).alloc (.cells #[.int .i64 q] 2)) hn.out hl (hat.out.below b0)
  have hs : (w.alloc (.cells #[.int .i64 p] 2)).heap.size = w.heap.size + 1 := by show (w.heap.push _).size = _; rw [Array.size_push]
  rw [hs] at q0
  by_cases hr : RightP C
  · rw [rightB_iff.2 hr] at kR
    go_enter Try.func33, Try.ntmps33
    go_wp2_with fail
    refine kR.mono ?_
    rintro e w1 ⟨rfl, hb1⟩
    have o1 := o0.below hb1
    have q1 := q0.below hb1
    have B1 := bnext b0 hb1
    have cO := o1.cell
    have cQ := q1.cell
    clear b0 hb1 o0 q0 hs
    have kW := iswindow_any p q w1
    by_cases h0 : winP p q
    · rw [winB_iff.2 h0] at kW
      have hf := hid (show lsA C p q = (lsT C p q C.length, 0) from if_pos ⟨hr, h0⟩)
      have hl2 : n ≤ 4096 := by rw [← hn.out]; exact hr.2.1
      have b2 := below_lit w1 (.cells #[.int .i64 1073741824] 3)
      have o2 := o1.below b2
      have q2 := q1.below b2
      have v2 := One.new w1 (.int .i64 1073741824) 3
      have B2 := bnext B1 b2
      have hne : w.heap.size ≠ w1.heap.size := by have := o1.lt; omega
      have hne2 : w.heap.size + 1 ≠ w1.heap.size := by have := q1.lt; omega
      have hle : w.heap.size ≤ w1.heap.size := B1.size
      replace hr := hid hr
      have kE := each27 a n c C (w.heap.size + 1) w.heap.size w1.heap.size (fun k w' => One w' (w.heap.size + 1) (.int .i64 q) 2 ∧ One w' w.heap.size (.int .i64 p) 2 ∧ One w' w1.heap.size (.int .i64 (lsT C p q k)) 3 ∧ Below w.heap.size w w') (w1.alloc (.cells #[.int .i64 1073741824] 3)) hn.out hl2 ⟨q2, o2, v2, B2⟩ (fun k w' h => hat.out.below h.2.2.2) (fun k w' h => ⟨h.1, h.2.1, h.2.2.1, h.2.2.2.trans (drew_below _ |>.mono h.2.2.2.size)⟩)
        (fun k w' hk h => (least1 _ _ _ p q _ _ _ _ _ w' h.1 h.2.1 h.2.2.1 rfl).mono fun x w2 ⟨hx, h1, h2⟩ => ⟨hx, h.1.kp h2 hne2, h.2.1.kp h2 hne, h1, h.2.2.2.trans (h2.below (fun k e => by omega) h.2.2.2.size)⟩)
      replace h0 := hid h0
      go_wp2_with fail
      refine kW.mono ?_
      rintro e w2 ⟨rfl, rfl⟩
      go_wp2_with fail
      refine kE.mono ?_
      rintro e w3 ⟨rfl, _, _, hv3, B3⟩
      have cv := hv3.cell
      have eL : lsT C p q n = lsT C p q C.length := by rw [hn.out]
      rw [eL] at cv
      generalize lsT C p q C.length = L at *
      go_wp2
      go_ret2
      rw [hf.out]
      exact ⟨rfl, B3⟩
    · rw [winB_no h0] at kW
      have hf := hid (show lsA C p q = (0, 2) from if_neg fun h => h0 h.2)
      replace h0 := hid h0
      go_wp2_with fail
      refine kW.mono ?_
      rintro e w2 ⟨rfl, rfl⟩
      go_wp2
      go_ret2
      rw [hf.out]
      exact ⟨rfl, B1⟩
  · have hf := hid (show lsA C p q = (0, 2) from if_neg fun h => hr h.1)
    rw [rightB_false hr] at kR
    go_enter Try.func33, Try.ntmps33
    go_wp2_with fail
    refine kR.mono ?_
    rintro e w1 ⟨rfl, hb1⟩
    have B1 := bnext b0 hb1
    go_wp2
    go_ret2
    rw [hf.out]
    exact ⟨rfl, B1⟩

end Go.Proofs.Yticlpjpbjgfgmaa
