/- Least and Fit of the program. -/
import Derived.Test.YtlffgcnmdkgkdaaAt
namespace Go.Proofs.Ytlffgcnmdkgkdaa
open Go.RowKit

theorem least1 (b e f fm to v V : Int) (g0 g1 g2 : Nat) (w : World) (h0 : One w g0 (.int .i64 to) 2) (h1 : One w g1 (.int .i64 fm) 2) (h2 : One w g2 (.int .i64 v) 3) (hV : V = if b < to ∧ fm < e then min v f else v) :
    Calls Try.prog 27 #[.int .i64 b, .int .i64 e, .int .i64 f, ptr g0, ptr g1, ptr g2] w fun x w' => x = .returned (.tuple #[]) ∧ One w' g2 (.int .i64 V) 3 ∧ Kp (fun k => k = g2) w w' := by
  have c0 := h0.cell
  have c1 := h1.cell
  have c2 := h2.cell
  have c3 := h2.free
  unfold ptr
  by_cases k1 : b < to
  · have d1 : decide (b < to) = true := decide_eq_true k1
    by_cases k2 : fm < e
    · have d2 : decide (fm < e) = true := decide_eq_true k2
      rw [if_pos ⟨k1, k2⟩] at hV
      rcases Int.lt_or_le v f with k3 | k3
      · rw [Int.min_eq_left (by omega)] at hV
        subst hV
        go_enter Try.func27, Try.ntmps27
        go_wp2
        go_end0
        exact ⟨rfl, h2.set _, kp_one _⟩
      · rw [Int.min_eq_right k3] at hV
        rcases Int.lt_or_le f v with k4 | k4
        rotate_left
        · have k5 : f = v := by omega
          subst k5
          subst hV
          clear k3 k4
          go_enter Try.func27, Try.ntmps27
          go_wp2
          go_end0
          exact ⟨rfl, h2.set _, kp_one _⟩
        subst hV
        go_enter Try.func27, Try.ntmps27
        go_wp2
        go_end0
        exact ⟨rfl, h2.set _, kp_one _⟩
    · have d2 : decide (fm < e) = false := decide_eq_false k2
      rw [if_neg fun h => k2 h.2] at hV
      subst hV
      go_enter Try.func27, Try.ntmps27
      go_wp2
      go_end0
      exact ⟨rfl, h2, Kp.refl _ _⟩
  · have d1 : decide (b < to) = false := decide_eq_false k1
    rw [if_neg fun h => k1 h.1] at hV
    subst hV
    go_enter Try.func27, Try.ntmps27
    go_wp2
    go_end0
    exact ⟨rfl, h2, Kp.refl _ _⟩

/-- What Least tells. -/
abbrev lsP (C : List Cut) (a b : Int) : Prop := RightP C ∧ winP a b
def lsA (C : List Cut) (a b : Int) : Int × Int := if lsP C a b then (lsT C a b C.length, 0) else (0, 2)

theorem winB_iff {a b : Int} : winB a b = true ↔ winP a b := by simp [winB]
theorem winB_no {a b : Int} (h : ¬ winP a b) : winB a b = false := decide_eq_false h

set_option maxRecDepth 100000 in
theorem least_any (a : Option Addr) (n c : Nat) (C : List Cut) (p q : Int) (w : World) (hn : C.length = n) (hl : n ≤ 4611686018427387904) (hat : SAt w a C) :
    Calls Try.prog 12 #[.slice a n c, .int .i64 p, .int .i64 q] w fun e w' => e = .returned (.tuple #[.int .i64 (lsA C p q).1, .int .i64 (lsA C p q).2]) ∧ Below w.heap.size w w' := by
  replace hn := hid hn
  replace hat := hid hat
  have b0 := two_new w (.cells #[.int .i64 p] 2) (.cells #[.int .i64 q] 2)
  have o0 := (One.new w (.int .i64 p) 2).below (below_lit _ (.cells #[.int .i64 q] 2))
  have q0 := One.new (w.alloc (.cells #[.int .i64 p] 2)) (.int .i64 q) 2
  have kR := right_any a n c C ((w.alloc (.cells #[.int .i64 p] 2)).alloc (.cells #[.int .i64 q] 2)) hn.out hl (hat.out.below b0)
  have hs : (w.alloc (.cells #[.int .i64 p] 2)).heap.size = w.heap.size + 1 := by show (w.heap.push _).size = _; rw [Array.size_push]
  rw [hs] at q0
  by_cases hr : RightP C
  · rw [rightB_iff.2 hr] at kR
    go_enter Try.func12, Try.ntmps12
    go_wp2_with fail
    refine kR.mono ?_
    rintro e w1 ⟨rfl, hb1⟩
    have o1 := o0.below hb1
    have q1 := q0.below hb1
    have B1 := bnext b0 hb1
    have cO := o1.cell
    have cQ := q1.cell
    clear b0 hb1 o0 q0 hs
    have kW := iswindow_any p q w1
    by_cases h0 : winP p q
    · rw [winB_iff.2 h0] at kW
      have hf := hid (show lsA C p q = (lsT C p q C.length, 0) from if_pos ⟨hr, h0⟩)
      have hl2 : n ≤ 4096 := by rw [← hn.out]; exact hr.2.1
      have b2 := below_lit w1 (.cells #[.int .i64 1073741824] 3)
      have o2 := o1.below b2
      have q2 := q1.below b2
      have v2 := One.new w1 (.int .i64 1073741824) 3
      have B2 := bnext B1 b2
      have hne : w.heap.size ≠ w1.heap.size := by have := o1.lt; omega
      have hne2 : w.heap.size + 1 ≠ w1.heap.size := by have := q1.lt; omega
      have hle : w.heap.size ≤ w1.heap.size := B1.size
      replace hr := hid hr
      have kE := each27 a n c C (w.heap.size + 1) w.heap.size w1.heap.size (fun k w' => One w' (w.heap.size + 1) (.int .i64 q) 2 ∧ One w' w.heap.size (.int .i64 p) 2 ∧ One w' w1.heap.size (.int .i64 (lsT C p q k)) 3 ∧ Below w.heap.size w w') (w1.alloc (.cells #[.int .i64 1073741824] 3)) hn.out hl2 ⟨q2, o2, v2, B2⟩ (fun k w' h => hat.out.below h.2.2.2) (fun k w' h => ⟨h.1, h.2.1, h.2.2.1, h.2.2.2.trans (drew_below _ |>.mono h.2.2.2.size)⟩)
        (fun k w' hk h => (least1 _ _ _ p q _ _ _ _ _ w' h.1 h.2.1 h.2.2.1 rfl).mono fun x w2 ⟨hx, h1, h2⟩ => ⟨hx, h.1.kp h2 hne2, h.2.1.kp h2 hne, h1, h.2.2.2.trans (h2.below (fun k e => by omega) h.2.2.2.size)⟩)
      replace h0 := hid h0
      go_wp2_with fail
      refine kW.mono ?_
      rintro e w2 ⟨rfl, rfl⟩
      go_wp2_with fail
      refine kE.mono ?_
      rintro e w3 ⟨rfl, _, _, hv3, B3⟩
      have cv := hv3.cell
      have eL : lsT C p q n = lsT C p q C.length := by rw [hn.out]
      rw [eL] at cv
      generalize lsT C p q C.length = L at *
      go_wp2
      go_ret2
      rw [hf.out]
      exact ⟨rfl, B3⟩
    · rw [winB_no h0] at kW
      have hf := hid (show lsA C p q = (0, 2) from if_neg fun h => h0 h.2)
      replace h0 := hid h0
      go_wp2_with fail
      refine kW.mono ?_
      rintro e w2 ⟨rfl, rfl⟩
      go_wp2
      go_ret2
      rw [hf.out]
      exact ⟨rfl, B1⟩
  · have hf := hid (show lsA C p q = (0, 2) from if_neg fun h => hr h.1)
    rw [rightB_false hr] at kR
    go_enter Try.func12, Try.ntmps12
    go_wp2_with fail
    refine kR.mono ?_
    rintro e w1 ⟨rfl, hb1⟩
    have B1 := bnext b0 hb1
    go_wp2
    go_ret2
    rw [hf.out]
    exact ⟨rfl, B1⟩

theorem fit1 (b e f x len n V : Int) (g0 g1 g2 : Nat) (w : World) (h0 : One w g0 (.int .i64 n) 3) (h1 : One w g1 (.int .i64 x) 2) (h2 : One w g2 (.int .i64 len) 2) (hx : 0 ≤ x) (hx2 : x ≤ 2199023255552) (hl : 0 ≤ len) (hl2 : len ≤ 1099511627776) (hV : V = if f < n ∧ b < x + len ∧ x < e then e else x) :
    Calls Try.prog 33 #[.int .i64 b, .int .i64 e, .int .i64 f, ptr g0, ptr g1, ptr g2] w fun y w' => y = .returned (.tuple #[]) ∧ One w' g1 (.int .i64 V) 2 ∧ Kp (fun k => k = g1) w w' := by
  have c0 := h0.cell
  have c1 := h1.cell
  have c2 := h2.cell
  have c3 := h1.free
  have hw : IntKind.i64.wrap (x + len) = x + len := by rw [IntKind.wrap_i64]; omega
  unfold ptr
  by_cases k1 : f < n
  · have d1 : decide (f < n) = true := decide_eq_true k1
    by_cases k2 : b < x + len
    · have d2 : decide (b < x + len) = true := decide_eq_true k2
      by_cases k3 : x < e
      · have d3 : decide (x < e) = true := decide_eq_true k3
        rw [if_pos ⟨k1, k2, k3⟩] at hV
        subst hV
        go_enter Try.func33, Try.ntmps33
        go_wp2
        go_end0
        exact ⟨rfl, h1.set _, kp_one _⟩
      · have d3 : decide (x < e) = false := decide_eq_false k3
        rw [if_neg fun h => k3 h.2.2] at hV
        subst hV
        go_enter Try.func33, Try.ntmps33
        go_wp2
        go_end0
        exact ⟨rfl, h1, Kp.refl _ _⟩
    · have d2 : decide (b < x + len) = false := decide_eq_false k2
      rw [if_neg fun h => k2 h.2.1] at hV
      subst hV
      go_enter Try.func33, Try.ntmps33
      go_wp2
      go_end0
      exact ⟨rfl, h1, Kp.refl _ _⟩
  · have d1 : decide (f < n) = false := decide_eq_false k1
    rw [if_neg fun h => k1 h.1] at hV
    subst hV
    go_enter Try.func33, Try.ntmps33
    go_wp2
    go_end0
    exact ⟨rfl, h1, Kp.refl _ _⟩

/-- What Fit tells. -/
abbrev ftP (C : List Cut) (a len n : Int) : Prop := RightP C ∧ (0 ≤ a ∧ a ≤ 1099511627776) ∧ (1 ≤ len ∧ len ≤ 1099511627776) ∧ isV n
def ftA (C : List Cut) (a len n : Int) : Int × Int := if ftP C a len n then (if 1099511627776 < fitP C a len n then (0, 120) else (fitP C a len n, 0)) else (0, 2)

theorem ft_bd {C : List Cut} (h : RightP C) {a len n : Int} (h0 : 0 ≤ a) (h1 : a ≤ 1099511627776) (hl : 1 ≤ len) {k : Nat} (hk : k < C.length) : 0 ≤ ftT C a len n k ∧ ftT C a len n k ≤ 2199023255552 := by
  have I := ft_inv h h0 hl (n := n) k (by omega)
  refine ⟨by have := I.from_; omega, ?_⟩
  rcases I.cut with e | ⟨i, e1, e2, e3⟩
  · omega
  · rw [e3]
    unfold bg
    rw [if_pos (by omega)]
    exact (h.2.2.2 i (by omega)).1

set_option maxRecDepth 100000 in
set_option maxHeartbeats 400000 in
theorem fit_any (a : Option Addr) (n c : Nat) (C : List Cut) (p len m : Int) (w : World) (hn : C.length = n) (hl : n ≤ 4611686018427387904) (hat : SAt w a C) :
    Calls Try.prog 20 #[.slice a n c, .int .i64 p, .int .i64 len, .int .i64 m] w fun e w' => e = .returned (.tuple #[.int .i64 (ftA C p len m).1, .int .i64 (ftA C p len m).2]) ∧ Below w.heap.size w w' := by
  replace hn := hid hn
  replace hat := hid hat
  have b0 := two_new w (.cells #[.int .i64 len] 2) (.cells #[.int .i64 m] 3)
  have o0 := (One.new w (.int .i64 len) 2).below (below_lit _ (.cells #[.int .i64 m] 3))
  have q0 := One.new (w.alloc (.cells #[.int .i64 len] 2)) (.int .i64 m) 3
  have kR := right_any a n c C ((w.alloc (.cells #[.int .i64 len] 2)).alloc (.cells #[.int .i64 m] 3)) hn.out hl (hat.out.below b0)
  have hs : (w.alloc (.cells #[.int .i64 len] 2)).heap.size = w.heap.size + 1 := by show (w.heap.push _).size = _; rw [Array.size_push]
  rw [hs] at q0
  by_cases hr : RightP C
  · rw [rightB_iff.2 hr] at kR
    go_enter Try.func20, Try.ntmps20
    go_wp2_with fail
    refine kR.mono ?_
    rintro e w1 ⟨rfl, hb1⟩
    have o1 := o0.below hb1
    have q1 := q0.below hb1
    have B1 := bnext b0 hb1
    have cO := o1.cell
    have cQ := q1.cell
    clear b0 hb1 o0 q0 hs
    have kV := isvalue_any m w1
    by_cases k1 : p < 0
    · have hf := hid (show ftA C p len m = (0, 2) from if_neg fun h => by have := h.2.1; omega)
      have d1 : decide (p < 0) = true := decide_eq_true k1
      go_wp2
      go_ret2
      rw [hf.out]; exact ⟨rfl, B1⟩
    · have d1 : decide (p < 0) = false := decide_eq_false k1
      by_cases k2 : 1099511627776 < p
      · have hf := hid (show ftA C p len m = (0, 2) from if_neg fun h => by have := h.2.1; omega)
        have d2 : decide (1099511627776 < p) = true := decide_eq_true k2
        go_wp2
        go_ret2
        rw [hf.out]; exact ⟨rfl, B1⟩
      · have d2 : decide (1099511627776 < p) = false := decide_eq_false k2
        by_cases k3 : len < 1
        · have hf := hid (show ftA C p len m = (0, 2) from if_neg fun h => by have := h.2.2.1; omega)
          have d3 : decide (len < 1) = true := decide_eq_true k3
          go_wp2
          go_ret2
          rw [hf.out]; exact ⟨rfl, B1⟩
        · have d3 : decide (len < 1) = false := decide_eq_false k3
          by_cases k4 : 1099511627776 < len
          · have hf := hid (show ftA C p len m = (0, 2) from if_neg fun h => by have := h.2.2.1; omega)
            have d4 : decide (1099511627776 < len) = true := decide_eq_true k4
            go_wp2
            go_ret2
            rw [hf.out]; exact ⟨rfl, B1⟩
          · have d4 : decide (1099511627776 < len) = false := decide_eq_false k4
            by_cases k5 : isV m
            · rw [isVB_iff.2 k5] at kV
              have hg : ftP C p len m := ⟨hr, by omega, by omega, k5⟩
              have hl2 : n ≤ 4096 := by rw [← hn.out]; exact hr.2.1
              have b2 := below_lit w1 (.cells #[.int .i64 p] 2)
              have o2 := o1.below b2
              have q2 := q1.below b2
              have v2 := One.new w1 (.int .i64 p) 2
              have B2 := bnext B1 b2
              have hne : w.heap.size ≠ w1.heap.size := by have := o1.lt; omega
              have hne2 : w.heap.size + 1 ≠ w1.heap.size := by have := q1.lt; omega
              have hle : w.heap.size ≤ w1.heap.size := B1.size
              have kE := each33 a n c C (w.heap.size + 1) w1.heap.size w.heap.size (fun k w' => One w' (w.heap.size + 1) (.int .i64 m) 3 ∧ One w' w.heap.size (.int .i64 len) 2 ∧ One w' w1.heap.size (.int .i64 (ftT C p len m k)) 2 ∧ Below w.heap.size w w') (w1.alloc (.cells #[.int .i64 p] 2)) hn.out hl2 ⟨q2, o2, v2, B2⟩ (fun k w' h => hat.out.below h.2.2.2) (fun k w' h => ⟨h.1, h.2.1, h.2.2.1, h.2.2.2.trans (drew_below _ |>.mono h.2.2.2.size)⟩)
                (fun k w' hk h => by
                  have hb := ft_bd hr (a := p) (len := len) (n := m) (by omega) (by omega) (by omega) (show k < C.length by rw [hn.out]; exact hk)
                  exact (fit1 _ _ _ _ len m _ _ _ _ w' h.1 h.2.2.1 h.2.1 hb.1 hb.2 (by omega) (by omega) rfl).mono fun x w2 ⟨hx, h1, h2⟩ => ⟨hx, h.1.kp h2 hne2, h.2.1.kp h2 hne, h1, h.2.2.2.trans (h2.below (fun k e => by omega) h.2.2.2.size)⟩)
              by_cases k6 : 1099511627776 < fitP C p len m
              · have hf := hid (show ftA C p len m = (0, 120) by unfold ftA; rw [if_pos hg, if_pos k6])
                have d6 : decide (1099511627776 < fitP C p len m) = true := decide_eq_true k6
                clear hg k5 k6
                replace hr := hid hr
                go_wp2_with fail
                refine kV.mono ?_
                rintro e w2 ⟨rfl, rfl⟩
                go_wp2_with fail
                refine kE.mono ?_
                rintro e w3 ⟨rfl, _, _, hv3, B3⟩
                have cv := hv3.cell
                have eL : ftT C p len m n = fitP C p len m := by unfold fitP; rw [hn.out]
                rw [eL] at cv
                generalize fitP C p len m = L at *
                go_wp2
                go_ret2
                rw [hf.out]
                exact ⟨rfl, B3⟩
              · have hf := hid (show ftA C p len m = (fitP C p len m, 0) by unfold ftA; rw [if_pos hg, if_neg k6])
                have d6 : decide (1099511627776 < fitP C p len m) = false := decide_eq_false k6
                clear hg k5 k6
                replace hr := hid hr
                go_wp2_with fail
                refine kV.mono ?_
                rintro e w2 ⟨rfl, rfl⟩
                go_wp2_with fail
                refine kE.mono ?_
                rintro e w3 ⟨rfl, _, _, hv3, B3⟩
                have cv := hv3.cell
                have eL : ftT C p len m n = fitP C p len m := by unfold fitP; rw [hn.out]
                rw [eL] at cv
                generalize fitP C p len m = L at *
                go_wp2
                go_ret2
                rw [hf.out]
                exact ⟨rfl, B3⟩
            · rw [isVB_no k5] at kV
              have hf := hid (show ftA C p len m = (0, 2) from if_neg fun h => k5 h.2.2.2)
              replace k5 := hid k5
              go_wp2_with fail
              refine kV.mono ?_
              rintro e w2 ⟨rfl, rfl⟩
              go_wp2
              go_ret2
              rw [hf.out]; exact ⟨rfl, B1⟩
  · have hf := hid (show ftA C p len m = (0, 2) from if_neg fun h => hr h.1)
    rw [rightB_false hr] at kR
    go_enter Try.func20, Try.ntmps20
    go_wp2_with fail
    refine kR.mono ?_
    rintro e w1 ⟨rfl, hb1⟩
    have B1 := bnext b0 hb1
    go_wp2
    go_ret2
    rw [hf.out]
    exact ⟨rfl, B1⟩

end Go.Proofs.Ytlffgcnmdkgkdaa
