/- Flat, At, Least and Fit of the program. -/
import Derived.Test.YtlffgcnmdkgkdaaEach
namespace Go.Proofs.Ytlffgcnmdkgkdaa
open Go.RowKit

/-- A block of one cell. -/
def One (w : World) (g : Nat) (v : Value) (t : Nat) : Prop := w.heap[g]? = some (.cells #[v] t (0, 0))

theorem One.cell {w : World} {g t : Nat} {v : Value} (h : One w g v t) : w.cell? ⟨g, 0, none⟩ = some v := cell_of_one h
theorem One.free {w : World} {g t : Nat} {v : Value} (h : One w g v t) : w.frozen? ⟨g, 0, none⟩ = false := free_of_one h
theorem One.set {w : World} {g t : Nat} {v : Value} (h : One w g v t) (u : Value) : One (w.setCell ⟨g, 0, none⟩ u) g u t := one_setCell h
theorem One.new (w : World) (v : Value) (t : Nat) : One (w.alloc (.cells #[v] t)) w.heap.size v t := heap_alloc_new w _
theorem One.lt {w : World} {g t : Nat} {v : Value} (h : One w g v t) : g < w.heap.size := (Array.getElem?_eq_some_iff.1 h).1
theorem One.below {w w' : World} {g t : Nat} {v : Value} (h : One w g v t) (hb : Below w.heap.size w w') : One w' g v t := by
  unfold One; rw [hb.block g h.lt]; exact h
theorem One.kp {S : Nat → Prop} {w w' : World} {g t : Nat} {v : Value} (h : One w g v t) (hk : Kp S w w') (hn : ¬ S g) : One w' g v t := by
  unfold One; rw [hk.block g h.lt hn]; exact h
theorem One.drew {w : World} {g t : Nat} {v : Value} (h : One w g v t) : One w.drew g v t := h

theorem kp_one {w : World} {g : Nat} (u : Value) : Kp (fun k => k = g) w (w.setCell ⟨g, 0, none⟩ u) := Kp.setCell (S := fun k => k = g) (p := ⟨g, 0, none⟩) (Kp.refl _ _) rfl u

def flatA (n : Int) : List Cut × Int := if isV n then ([(0, n)], 0) else ([], 2)

theorem flat_any (n : Int) (w : World) : Calls Try.prog 8 #[.int .i64 n] w fun e w' => ∃ a c, e = .returned (.tuple #[.slice a (flatA n).1.length c, .int .i64 (flatA n).2]) ∧ SAt w' a (flatA n).1 ∧ Below w.heap.size w w' := by
  by_cases h : isV n
  · have hf := hid (show flatA n = ([(0, n)], 0) from if_pos h)
    have kV := isvalue_any n w
    rw [isVB_iff.2 h] at kV
    go_enter Try.func8, Try.ntmps8
    go_wp2_with fail
    refine kV.mono ?_
    rintro e w1 ⟨rfl, rfl⟩
    go_wp2
    go_ret2
    rw [hf.out]
    exact ⟨_, _, rfl, cat_lit _ _ _ _ rfl, below_lit _ _⟩
  · have hf := hid (show flatA n = ([], 2) from if_neg h)
    have kV := isvalue_any n w
    rw [isVB_no h] at kV
    go_enter Try.func8, Try.ntmps8
    go_wp2_with fail
    refine kV.mono ?_
    rintro e w1 ⟨rfl, rfl⟩
    go_wp2
    go_ret2
    rw [hf.out]
    exact ⟨_, _, rfl, SAt.nil _ _, Below.refl _ _⟩

theorem at1 (b e f t v V : Int) (g0 g1 : Nat) (w : World) (h0 : One w g0 (.int .i64 t) 2) (h1 : One w g1 (.int .i64 v) 3) (hV : V = if b ≤ t ∧ t < e then f else v) :
    Calls Try.prog 24 #[.int .i64 b, .int .i64 e, .int .i64 f, ptr g0, ptr g1] w fun x w' => x = .returned (.tuple #[]) ∧ One w' g1 (.int .i64 V) 3 ∧ Kp (fun k => k = g1) w w' := by
  have c0 := h0.cell
  have c1 := h1.free
  have c2 := h1.cell
  unfold ptr
  by_cases k1 : b ≤ t
  · have d1 : decide (b ≤ t) = true := decide_eq_true k1
    by_cases k2 : t < e
    · have d2 : decide (t < e) = true := decide_eq_true k2
      rw [if_pos ⟨k1, k2⟩] at hV
      subst hV
      go_enter Try.func24, Try.ntmps24
      go_wp2
      go_end0
      exact ⟨rfl, h1.set _, kp_one _⟩
    · have d2 : decide (t < e) = false := decide_eq_false k2
      rw [if_neg fun h => k2 h.2] at hV
      subst hV
      go_enter Try.func24, Try.ntmps24
      go_wp2
      go_end0
      exact ⟨rfl, h1, Kp.refl _ _⟩
  · have d1 : decide (b ≤ t) = false := decide_eq_false k1
    rw [if_neg fun h => k1 h.1] at hV
    subst hV
    go_enter Try.func24, Try.ntmps24
    go_wp2
    go_end0
    exact ⟨rfl, h1, Kp.refl _ _⟩

/-- What At tells. -/
abbrev atP (C : List Cut) (t : Int) : Prop := RightP C ∧ 0 ≤ t ∧ t ≤ 2199023255552
def atA (C : List Cut) (t : Int) : Int × Int := if atP C t then (val C t, 0) else (0, 2)

set_option maxRecDepth 100000 in
theorem at_any (a : Option Addr) (n c : Nat) (C : List Cut) (t : Int) (w : World) (hn : C.length = n) (hl : n ≤ 4611686018427387904) (hat : SAt w a C) :
    Calls Try.prog 10 #[.slice a n c, .int .i64 t] w fun e w' => e = .returned (.tuple #[.int .i64 (atA C t).1, .int .i64 (atA C t).2]) ∧ Below w.heap.size w w' := by
  replace hn := hid hn
  replace hat := hid hat
  have b0 := below_lit w (.cells #[.int .i64 t] 2)
  have o0 := One.new w (.int .i64 t) 2
  have kR := right_any a n c C (w.alloc (.cells #[.int .i64 t] 2)) hn.out hl (hat.out.below b0)
  by_cases hr : RightP C
  · rw [rightB_iff.2 hr] at kR
    go_enter Try.func10, Try.ntmps10
    go_wp2_with fail
    refine kR.mono ?_
    rintro e w1 ⟨rfl, hb1⟩
    have o1 := o0.below hb1
    have B1 := bnext b0 hb1
    have cT := o1.cell
    clear b0 hb1 o0
    by_cases h0 : 0 ≤ t
    · have d0 : decide (t < 0) = false := decide_eq_false (by omega)
      by_cases h1 : t ≤ 2199023255552
      · have d1 : decide (2199023255552 < t) = false := decide_eq_false (by omega)
        have hf := hid (show atA C t = (val C t, 0) from if_pos ⟨hr, h0, h1⟩)
        have hav := hid (av_val hr h0 h1)
        have hl2 : n ≤ 4096 := by rw [← hn.out]; exact hr.2.1
        have b2 := below_lit w1 (.cells #[.int .i64 0] 3)
        have o2 := o1.below b2
        have v2 := One.new w1 (.int .i64 0) 3
        have B2 := bnext B1 b2
        have hne : w.heap.size ≠ w1.heap.size := by have := o1.lt; omega
        have hle : w.heap.size ≤ w1.heap.size := B1.size
        replace hr := hid hr
        have kE := each24 a n c C w.heap.size w1.heap.size (fun k w' => One w' w.heap.size (.int .i64 t) 2 ∧ One w' w1.heap.size (.int .i64 (avT C t k)) 3 ∧ Below w.heap.size w w') (w1.alloc (.cells #[.int .i64 0] 3)) hn.out hl2 ⟨o2, v2, B2⟩ (fun k w' h => hat.out.below h.2.2) (fun k w' h => ⟨h.1, h.2.1, h.2.2.trans (drew_below _ |>.mono h.2.2.size)⟩)
          (fun k w' hk h => (at1 _ _ _ t _ _ _ _ w' h.1 h.2.1 rfl).mono fun x w2 ⟨hx, h1, h2⟩ => ⟨hx, h.1.kp h2 hne, h1, h.2.2.trans (h2.below (fun k e => by omega) h.2.2.size)⟩)
        clear h0 h1
        go_wp2_with fail
        refine kE.mono ?_
        rintro e w3 ⟨rfl, _, hv3, B3⟩
        have cv := hv3.cell
        have eL : avT C t n = val C t := by rw [← hn.out]; exact hav.out
        rw [eL] at cv
        go_wp2
        go_ret2
        rw [hf.out]
        exact ⟨rfl, B3⟩
      · have d1 : decide (2199023255552 < t) = true := decide_eq_true (by omega)
        have hf := hid (show atA C t = (0, 2) from if_neg fun h => h1 h.2.2)
        clear h0 h1
        go_wp2
        go_ret2
        rw [hf.out]
        exact ⟨rfl, B1⟩
    · have d0 : decide (t < 0) = true := decide_eq_true (by omega)
      have hf := hid (show atA C t = (0, 2) from if_neg fun h => h0 h.2.1)
      clear h0
      go_wp2
      go_ret2
      rw [hf.out]
      exact ⟨rfl, B1⟩
  · have hf := hid (show atA C t = (0, 2) from if_neg fun h => hr h.1)
    rw [rightB_false hr] at kR
    go_enter Try.func10, Try.ntmps10
    go_wp2_with fail
    refine kR.mono ?_
    rintro e w1 ⟨rfl, hb1⟩
    have B1 := bnext b0 hb1
    go_wp2
    go_ret2
    rw [hf.out]
    exact ⟨rfl, B1⟩

end Go.Proofs.Ytlffgcnmdkgkdaa
