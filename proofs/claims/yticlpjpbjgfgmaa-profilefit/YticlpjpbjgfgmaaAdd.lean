/- Add of the program. -/
import Derived.Test.YticlpjpbjgfgmaaAdd2
namespace Go.Proofs.Yticlpjpbjgfgmaa
open Go.RowKit

theorem three_new (w : World) (x y z : Obj) : Below w.heap.size w (((w.alloc x).alloc y).alloc z) := bnext (two_new w x y) (below_lit _ z)

theorem size_alloc (w : World) (x : Obj) : (w.alloc x).heap.size = w.heap.size + 1 := by show (w.heap.push _).size = _; rw [Array.size_push]

/-- The state ahead of the first step. -/
theorem as_new {w0 w1 : World} {gf gt gn : Nat} {a b n : Int} (hf : One w1 gf (.int .i64 a) 2) (ht : One w1 gt (.int .i64 b) 2) (hn : One w1 gn (.int .i64 n) 3) (B : Below w0.heap.size w0 w1) (fv : Value) (hfv : fv = .func (.func 77) #[] #[ptr (w1.heap.size + 1), ptr w1.heap.size]) :
    AS w0 (((w1.alloc (.cells #[.slice none 0 0] 38)).alloc (.cells #[.bool false] 4)).alloc (.cells #[fv] 97)) gf (w1.heap.size + 2) gt gn (w1.heap.size + 1) w1.heap.size (w1.heap.size + 3) a b n ([], false) := by
  subst hfv
  have hs1 := size_alloc w1 (.cells #[.slice none 0 0] 38)
  have b1 := below_lit w1 (.cells #[.slice none 0 0] 38)
  have s1 := One.new w1 (.slice none 0 0) 38
  have f1 := hf.below b1
  have t1 := ht.below b1
  have n1 := hn.below b1
  have l1 := hf.lt
  have l2 := ht.lt
  have l3 := hn.lt
  have B1 := bnext B b1
  have hz := B.size
  revert s1 f1 t1 n1 B1 hs1
  generalize w1.alloc (.cells #[.slice none 0 0] 38) = w2
  intro hs1 s1 f1 t1 n1 B1
  have hs2 := size_alloc w2 (.cells #[.bool false] 4)
  have b2 := below_lit w2 (.cells #[.bool false] 4)
  have s2 := s1.below b2
  have f2 := f1.below b2
  have t2 := t1.below b2
  have n2 := n1.below b2
  have o2 := One.new w2 (.bool false) 4
  have B2 := bnext B1 b2
  rw [hs1] at o2
  revert s2 f2 t2 n2 o2 B2 hs2
  generalize w2.alloc (.cells #[.bool false] 4) = w3
  intro hs2 s2 f2 t2 n2 o2 B2
  have b3 := below_lit w3 (.cells #[.func (.func 77) #[] #[ptr (w1.heap.size + 1), ptr w1.heap.size]] 97)
  have hs3 := size_alloc w3 (.cells #[.func (.func 77) #[] #[ptr (w1.heap.size + 1), ptr w1.heap.size]] 97)
  have p3 := One.new w3 (.func (.func 77) #[] #[ptr (w1.heap.size + 1), ptr w1.heap.size]) 97
  rw [hs2, hs1] at p3
  exact ⟨f2.below b3, t2.below b3, n2.below b3, o2.below b3, p3, ⟨none, 0, s2.below b3, SOwn.nil _ _⟩, by omega, by omega, bnext B2 b3⟩

set_option maxRecDepth 100000 in
set_option maxHeartbeats 800000 in
theorem add_any (a : Option Addr) (n c : Nat) (C : List Cut) (p q m : Int) (w : World) (hn : C.length = n) (hl : n ≤ 4611686018427387904) (hat : SAt w a C) :
    Calls Try.prog 66 #[.slice a n c, .int .i64 p, .int .i64 q, .int .i64 m] w fun e w' => ∃ ad k, e = .returned (.tuple #[.slice ad (addA C p q m).1.length k, .int .i64 (addA C p q m).2]) ∧ SOwn w' w.heap.size (.slice ad (addA C p q m).1.length k) (addA C p q m).1 ∧ Below w.heap.size w w' := by
  replace hn := hid hn
  replace hat := hid hat
  have b0 := three_new w (.cells #[.int .i64 p] 2) (.cells #[.int .i64 q] 2) (.cells #[.int .i64 m] 3)
  have o0 := ((One.new w (.int .i64 p) 2).below (below_lit _ (.cells #[.int .i64 q] 2))).below (below_lit _ (.cells #[.int .i64 m] 3))
  have q0 := (One.new (w.alloc (.cells #[.int .i64 p] 2)) (.int .i64 q) 2).below (below_lit _ (.cells #[.int .i64 m] 3))
  have m0 := One.new ((w.alloc (.cells #[.int .i64 p] 2)).alloc (.cells #[.int .i64 q] 2)) (.int .i64 m) 3
  have kR := right_any a n c C (((w.alloc (.cells #[.int .i64 p] 2)).alloc (.cells #[.int .i64 q] 2)).alloc (.cells #[.int .i64 m] 3)) hn.out hl (hat.out.below b0)
  rw [size_alloc] at q0
  rw [size_alloc, size_alloc] at m0
  by_cases hr : RightP C
  · rw [rightB_iff.2 hr] at kR
    go_enter Try.func66, Try.ntmps66
    go_wp2_with fail
    refine kR.mono ?_
    rintro e w1 ⟨rfl, hb1⟩
    have o1 := o0.below hb1
    have q1 := q0.below hb1
    have m1 := m0.below hb1
    have B1 := bnext b0 hb1
    have cO := o1.cell
    have cQ := q1.cell
    have cM := m1.cell
    clear b0 hb1 o0 q0 m0
    have kW := iswindow_any p q w1
    by_cases h0 : winP p q
    · rw [winB_iff.2 h0] at kW
      by_cases h1 : m < -1073741824
      · have hf := hid (show addA C p q m = ([], 2) from if_neg fun h => by have := h.2.2; omega)
        have d1 : decide (m < -1073741824) = true := decide_eq_true h1
        replace h0 := hid h0
        go_wp2_with fail
        refine kW.mono ?_
        rintro e w2 ⟨rfl, rfl⟩
        go_wp2
        go_ret2
        rw [hf.out]
        exact ⟨_, _, rfl, SOwn.nil _ _, B1⟩
      · have d1 : decide (m < -1073741824) = false := decide_eq_false h1
        by_cases h2 : 1073741824 < m
        · have hf := hid (show addA C p q m = ([], 2) from if_neg fun h => by have := h.2.2; omega)
          have d2 : decide (1073741824 < m) = true := decide_eq_true h2
          replace h0 := hid h0
          go_wp2_with fail
          refine kW.mono ?_
          rintro e w2 ⟨rfl, rfl⟩
          go_wp2
          go_ret2
          rw [hf.out]
          exact ⟨_, _, rfl, SOwn.nil _ _, B1⟩
        · have d2 : decide (1073741824 < m) = false := decide_eq_false h2
          have hg : argP C p q m := ⟨hr, h0, by omega⟩
          have hl2 : n ≤ 4096 := by rw [← hn.out]; exact hr.2.1
          have hz := B1.size
          have kE := fun fv hfv => each31 a n c C w.heap.size (w1.heap.size + 2) (w.heap.size + 1) (w.heap.size + 2) (fun k w' => AS w w' w.heap.size (w1.heap.size + 2) (w.heap.size + 1) (w.heap.size + 2) (w1.heap.size + 1) w1.heap.size (w1.heap.size + 3) p q m (adT C p q m k)) _ hn.out hl2 (as_new o1 q1 m1 B1 fv hfv) (fun k w' h => hat.out.below h.bel) (fun k w' h => h.drew)
            (fun k w' hk h => by
              have hkL : k < C.length := by rw [hn.out]; exact hk
              have hfv := (hr.2.2.2 k hkL).2.1
              have hal := adT_len C p q m k
              exact add2_any w w.heap.size (w1.heap.size + 2) (w.heap.size + 1) (w.heap.size + 2) (w1.heap.size + 1) w1.heap.size (w1.heap.size + 3) p q m (tm C k) (en C k) (fr C k) (adT C p q m k) w' h (by omega) (hr.tm_en hkL) h0.2.1 hfv.1 hfv.2 (by omega) (by omega))
          replace kE := kE _ rfl
          unfold ptr at kE
          have eL : adT C p q m n = addP C p q m := by unfold addP; rw [hn.out]
          rw [eL] at kE
          have hpl : (addP C p q m).1.length ≤ 15000 := by have := adT_len C p q m C.length; unfold addP; have := hr.2.1; omega
          by_cases h3 : (addP C p q m).2 = true
          · have hf := hid (show addA C p q m = ([], 120) by unfold addA; rw [if_pos hg, if_pos h3])
            replace hg := hid hg
            replace h0 := hid h0
            replace hr := hid hr
            replace h3 := hid h3
            go_wp2_with fail
            refine kW.mono ?_
            rintro e w2 ⟨rfl, rfl⟩
            go_wp2_with fail
            refine kE.mono ?_
            rintro e w3 ⟨rfl, h⟩
            have co := h.o.cell
            rw [h3.out] at co
            have hb := h.bel
            replace h := hid h
            go_wp2
            go_ret2
            rw [hf.out]
            exact ⟨_, _, rfl, SOwn.nil _ _, hb⟩
          · have h3' : (addP C p q m).2 = false := by simpa using h3
            by_cases h4 : 4096 < (addP C p q m).1.length
            · have hf := hid (show addA C p q m = ([], 5) by unfold addA; rw [if_pos hg, if_neg h3, if_pos h4])
              replace hg := hid hg
              replace h0 := hid h0
              replace hr := hid hr
              replace h3 := hid h3
              replace h3' := hid h3'
              go_wp2_with fail
              refine kW.mono ?_
              rintro e w2 ⟨rfl, rfl⟩
              go_wp2_with fail
              refine kE.mono ?_
              rintro e w3 ⟨rfl, h⟩
              have co := h.o.cell
              rw [h3'.out] at co
              have hb := h.bel
              obtain ⟨ad, k, hs, _⟩ := h.row
              have cs := hs.cell
              have d4 : decide (4096 < ((addP C p q m).1.length : Int)) = true := decide_eq_true (by omega)
              replace h := hid h
              generalize (addP C p q m).1.length = LL at *
              go_wp2
              go_ret2
              rw [hf.out]
              exact ⟨_, _, rfl, SOwn.nil _ _, hb⟩
            · have hf := hid (show addA C p q m = ((addP C p q m).1, 0) by unfold addA; rw [if_pos hg, if_neg h3, if_neg h4])
              replace hg := hid hg
              replace h0 := hid h0
              replace hr := hid hr
              replace h3 := hid h3
              replace h3' := hid h3'
              go_wp2_with fail
              refine kW.mono ?_
              rintro e w2 ⟨rfl, rfl⟩
              go_wp2_with fail
              refine kE.mono ?_
              rintro e w3 ⟨rfl, h⟩
              have co := h.o.cell
              rw [h3'.out] at co
              have hb := h.bel
              obtain ⟨ad, k, hs, ho⟩ := h.row
              have cs := hs.cell
              have d4 : decide (4096 < ((addP C p q m).1.length : Int)) = false := decide_eq_false (by omega)
              have hfin := hid (ho.low (show w.heap.size ≤ w2.heap.size + 3 by omega))
              replace h := hid h
              clear ho hs h4
              generalize addP C p q m = AP at *
              go_wp2
              go_ret2
              rw [hf.out]
              exact ⟨_, _, rfl, hfin.out, hb⟩
    · rw [winB_no h0] at kW
      have hf := hid (show addA C p q m = ([], 2) from if_neg fun h => h0 h.2.1)
      replace h0 := hid h0
      go_wp2_with fail
      refine kW.mono ?_
      rintro e w2 ⟨rfl, rfl⟩
      go_wp2
      go_ret2
      rw [hf.out]
      exact ⟨_, _, rfl, SOwn.nil _ _, B1⟩
  · have hf := hid (show addA C p q m = ([], 2) from if_neg fun h => hr h.1)
    rw [rightB_false hr] at kR
    go_enter Try.func66, Try.ntmps66
    go_wp2_with fail
    refine kR.mono ?_
    rintro e w1 ⟨rfl, hb1⟩
    have B1 := bnext b0 hb1
    go_wp2
    go_ret2
    rw [hf.out]
    exact ⟨_, _, rfl, SOwn.nil _ _, B1⟩

end Go.Proofs.Yticlpjpbjgfgmaa
