/- The document's Look. -/
import Derived.Test.YthjggjjocfbjcaaTellA
import Derived.Test.YthjggjjocfbjcaaTellR
namespace Go.Proofs.Ythjggjjocfbjcaa
open Go.RowKit

/-- The answer of the document's Look lies in memory as the plain one R says. -/
def RLookPost (R : List PC × Int × List UInt8 × Int) (w : World) (e : Ending) (w' : World) : Prop :=
  ∃ a' c' L' ra rc, e = .returned (.tuple #[.slice a' R.1.length c', .int .u8 R.2.1, .slice ra R.2.2.1.length rc, .int .i64 R.2.2.2]) ∧ L'.map CV.flat = R.1 ∧ LAt w' 0 a' L' ∧ At w' ra R.2.2.1 ∧ Below w.heap.size w w'

theorem lookr_none (n : Int) (w w' : World) (hb : Below w.heap.size w w') : RLookPost ([], 0, [], n) w (.returned (.tuple #[.slice none 0 0, .int .u8 0, .slice none 0 0, .int .i64 n])) w' :=
  ⟨none, 0, [], none, 0, rfl, rfl, LAt.nil _ _, at_nil _ _, hb⟩

set_option maxRecDepth 100000 in
set_option maxHeartbeats 2000000 in
theorem lookr_bad (a : Option Addr) (n c lo : Nat) (L : List CV) (cl r ak : Int) (w : World) (hL : L.length = n) (h : LAt w lo a L) (hn : n ≤ 9000000000000000000) (hbad : lookBad (L.map CV.flat) cl r ak = true) :
    Calls Try.prog 18 #[.slice a n c, .int .i64 cl, .int .i64 r, .int .i64 ak] w (RLookPost ([], 0, [], 2) w) := by
  replace hL := hid hL
  unfold lookBad at hbad
  replace hbad := hid hbad
  cases hr : rightP (L.map CV.flat) with
  | false =>
    replace hr := hid hr
    go_enter Try.func18, Try.ntmps18
    go_wp2_with fail
    refine (rightr_any a n c lo L _ hL.out h hn).mono ?_
    rintro e w2 ⟨rfl, hb2⟩
    rw [hr.out]
    go_wp2
    (try simp only [Exit.inBlock, Exit.then])
    refine bodyPost_ret (results_tmp4 rfl _ _ _) rfl ?_
    exact lookr_none 2 w w2 hb2
  | true =>
    replace hr := hid hr
    by_cases q0 : cl < 1
    · have d0 : decide (cl < 1) = true := decide_eq_true q0
      replace q0 := hid q0
      go_enter Try.func18, Try.ntmps18
      go_wp2_with fail
      refine (rightr_any a n c lo L _ hL.out h hn).mono ?_
      rintro e w2 ⟨rfl, hb2⟩
      rw [hr.out]
      go_wp2
      (try simp only [Exit.inBlock, Exit.then])
      refine bodyPost_ret (results_tmp4 rfl _ _ _) rfl ?_
      exact lookr_none 2 w w2 hb2
    · have d0 : decide (cl < 1) = false := decide_eq_false q0
      replace q0 := hid q0
      by_cases q1 : 4611686018427387904 < cl
      · have d1 : decide (4611686018427387904 < cl) = true := decide_eq_true q1
        replace q1 := hid q1
        go_enter Try.func18, Try.ntmps18
        go_wp2_with fail
        refine (rightr_any a n c lo L _ hL.out h hn).mono ?_
        rintro e w2 ⟨rfl, hb2⟩
        rw [hr.out]
        go_wp2
        (try simp only [Exit.inBlock, Exit.then])
        refine bodyPost_ret (results_tmp4 rfl _ _ _) rfl ?_
        exact lookr_none 2 w w2 hb2
      · have d1 : decide (4611686018427387904 < cl) = false := decide_eq_false q1
        replace q1 := hid q1
        by_cases q2 : r < 1
        · have d2 : decide (r < 1) = true := decide_eq_true q2
          replace q2 := hid q2
          go_enter Try.func18, Try.ntmps18
          go_wp2_with fail
          refine (rightr_any a n c lo L _ hL.out h hn).mono ?_
          rintro e w2 ⟨rfl, hb2⟩
          rw [hr.out]
          go_wp2
          (try simp only [Exit.inBlock, Exit.then])
          refine bodyPost_ret (results_tmp4 rfl _ _ _) rfl ?_
          exact lookr_none 2 w w2 hb2
        · have d2 : decide (r < 1) = false := decide_eq_false q2
          replace q2 := hid q2
          by_cases q3 : 4611686018427387904 < r
          · have d3 : decide (4611686018427387904 < r) = true := decide_eq_true q3
            replace q3 := hid q3
            go_enter Try.func18, Try.ntmps18
            go_wp2_with fail
            refine (rightr_any a n c lo L _ hL.out h hn).mono ?_
            rintro e w2 ⟨rfl, hb2⟩
            rw [hr.out]
            go_wp2
            (try simp only [Exit.inBlock, Exit.then])
            refine bodyPost_ret (results_tmp4 rfl _ _ _) rfl ?_
            exact lookr_none 2 w w2 hb2
          · have d3 : decide (4611686018427387904 < r) = false := decide_eq_false q3
            replace q3 := hid q3
            by_cases q4 : ak < 0
            · have d4 : decide (ak < 0) = true := decide_eq_true q4
              replace q4 := hid q4
              go_enter Try.func18, Try.ntmps18
              go_wp2_with fail
              refine (rightr_any a n c lo L _ hL.out h hn).mono ?_
              rintro e w2 ⟨rfl, hb2⟩
              rw [hr.out]
              go_wp2
              (try simp only [Exit.inBlock, Exit.then])
              refine bodyPost_ret (results_tmp4 rfl _ _ _) rfl ?_
              exact lookr_none 2 w w2 hb2
            · have d4 : decide (ak < 0) = false := decide_eq_false q4
              replace q4 := hid q4
              by_cases q5 : r ≤ ak
              · have d5 : decide (r ≤ ak) = true := decide_eq_true q5
                replace q5 := hid q5
                go_enter Try.func18, Try.ntmps18
                go_wp2_with fail
                refine (rightr_any a n c lo L _ hL.out h hn).mono ?_
                rintro e w2 ⟨rfl, hb2⟩
                rw [hr.out]
                go_wp2
                (try simp only [Exit.inBlock, Exit.then])
                refine bodyPost_ret (results_tmp4 rfl _ _ _) rfl ?_
                exact lookr_none 2 w w2 hb2
              · have d5 : decide (r ≤ ak) = false := decide_eq_false q5
                replace q5 := hid q5
                exfalso
                have e1 : numP cl = true := by unfold numP MM; rw [decide_eq_true (by have := q0.out; omega), decide_eq_true (by have := q1.out; omega)]; rfl
                have e2 : numP r = true := by unfold numP MM; rw [decide_eq_true (by have := q2.out; omega), decide_eq_true (by have := q3.out; omega)]; rfl
                have hb := hbad.out
                rw [hr.out, e1, e2, decide_eq_false q4.out, decide_eq_false q5.out] at hb
                simp at hb

/-- What the loop over the kept ones has told so far. -/
def toldP (r : Int) (l : List PK) : Int × List UInt8 := match getG l r with
  | some b => (2, b)
  | none => (1, [])

theorem getG_snoc {β : Type} (c : Int) (y : Int × β) : ∀ l : List (Int × β), getG (l ++ [y]) c = match getG l c with
    | some v => some v
    | none => if y.1 = c then some y.2 else none
  | [] => rfl
  | x :: r => by
    simp only [List.cons_append, getG]
    by_cases h : x.1 = c
    · rw [if_pos h, if_pos h]
    · rw [if_neg h, if_neg h, getG_snoc c y r]

set_option maxRecDepth 100000 in
set_option maxHeartbeats 4000000 in
theorem lookr_new (a : Option Addr) (n c : Nat) (L : List CV) (cl r ak : Int) (w : World) (hL : L.length = n) (h : LAt w 0 a L) (hR : RightC (L.map CV.flat)) (hc : 1 ≤ cl ∧ cl ≤ 4611686018427387904) (hrr : 1 ≤ r ∧ r ≤ 4611686018427387904) (ha : 0 ≤ ak ∧ ak < r) (hno : ∀ x ∈ L, x.id ≠ cl) :
    Calls Try.prog 18 #[.slice a n c, .int .i64 cl, .int .i64 r, .int .i64 ak] w (RLookPost (if n < 16 then (putG (L.map CV.flat) (cl, max 0 ak, []), 1, [], 0) else ([], 0, [], 5)) w) := by
  have hn16 : n ≤ 16 := by have := hR.len; rw [List.length_map] at this; omega
  have hr := hid ((right_iff _).2 hR)
  have d0 : decide (cl < 1) = false := decide_eq_false (by omega)
  have d1 : decide (4611686018427387904 < cl) = false := decide_eq_false (by omega)
  have d2 : decide (r < 1) = false := decide_eq_false (by omega)
  have d3 : decide (4611686018427387904 < r) = false := decide_eq_false (by omega)
  have d4 : decide (ak < 0) = false := decide_eq_false (by omega)
  have d5 : decide (r ≤ ak) = false := decide_eq_false (by omega)
  have hmx : max 0 ak = ak := by omega
  have d6 : decide (r ≤ ak) = false := d5
  rw [hmx]
  replace hR := hid hR
  replace hc := hid hc
  replace hrr := hid hrr
  replace ha := hid ha
  replace hno := hid hno
  replace hL := hid hL
  have hn : n ≤ 9000000000000000000 := by omega
  by_cases hf : n < 16
  · rw [if_pos hf]
    have d7 : decide ((16 : Int) ≤ (n : Int)) = false := decide_eq_false (by omega)
    replace hf := hid hf
    go_enter Try.func18, Try.ntmps18
    go_wp2_with fail
    refine (rightr_any a n c 0 L _ hL.out h hn).mono ?_
    rintro e w2 ⟨rfl, hb2⟩
    rw [hr.out]
    have b3 := below_lit w2 (.cells #[.int .i64 cl, .int .i64 0, .slice none 0 0] 34)
    have p3 := CBlk.new w2 (.int .i64 cl) (.int .i64 0) (.slice none 0 0)
    have h3 := (h.below hb2).below b3
    have B3 := bnext hb2 b3
    go_wp2_with fail
    obtain ⟨w3, hw3⟩ : ∃ W, W = w2.alloc (.cells #[.int .i64 cl, .int .i64 0, .slice none 0 0] 34) := ⟨_, rfl⟩
    rw [← hw3] at b3 p3 h3 B3 ⊢
    clear hw3
    have hgl : w.heap.size ≤ w2.heap.size := hb2.size
    refine (find_any a n c 0 L cl _ hL.out h3 hn).mono ?_
    rintro e w4 ⟨⟨fr, rfl, hfr⟩, b4⟩
    have hfr1 : fr = -1 := by
      rcases hfr with ⟨i, hi, _, he⟩ | ⟨he, _⟩
      · exact absurd he (hno.out _ (List.getElem_mem hi))
      · exact he
    subst hfr1
    have p4 := p3.below b4
    have c0 := p4.cell0
    have c1 := p4.cell1
    have c2 := p4.cell2
    have f1 := p4.free 1
    have r4 := hid (p4.set1 (.int .i64 ak))
    have h4 := hid (h3.below b4)
    have B4 := hid (bnext B3 b4)
    replace hfr := hid hfr
    replace p4 := hid p4
    replace p3 := hid p3
    replace h3 := hid h3
    have b5 := (B4.out.setCell (p := ⟨w2.heap.size, 1, none⟩) hgl (.int .i64 ak))
    have h5 := h.below b5
    replace r4 := r4.out
    by_cases hz : 0 < ak
    · go_wp2_with fail
      obtain ⟨w5, hw5⟩ : ∃ W, W = w4.setCell ⟨w2.heap.size, 1, none⟩ (.int .i64 ak) := ⟨_, rfl⟩
      rw [← hw5] at r4 b5 h5 ⊢
      clear hw5
      clear c0 c1 c2 f1
      have c0 := r4.cell0
      have c1 := r4.cell1
      have c2 := r4.cell2
      go_loopw [14, 15, 16] (fun v x k wr => v = .int .u8 1 ∧ x = .slice none 0 0 ∧ k = .int .i64 0 ∧ wr = w5) (fun _ _ _ _ => 0)
      case atStart => exact ⟨rfl, rfl, rfl, rfl⟩
      case round =>
        obtain ⟨rfl, rfl, rfl, rfl⟩ := hrel
        go_wp2_with fail
        refine (with_any a n c L cl ak none 0 0 [] wr hL.out h5 rfl (KAt.nil _ _) (by omega)).mono ?_
        rintro e w6 ⟨a6, c6, n6, L6, rfl, l6, f6, h6, b6⟩
        have hfl : L6.map CV.flat = putG (L.map CV.flat) (cl, ak, []) := f6.trans (wgo_put _ 0 _ hR.out.up)
        have hn6 : n6 = (putG (L.map CV.flat) (cl, ak, [])).length := by rw [← hfl, List.length_map, l6]
        have B6 := bnext b5 b6
        replace f6 := hid f6
        replace hfl := hid hfl
        replace hn6 := hid hn6
        replace l6 := hid l6
        replace h6 := hid h6
        go_wp2
        (try simp only [Exit.inBlock, Exit.then])
        refine bodyPost_ret (results_tmp4 rfl _ _ _) rfl ?_
        refine ⟨a6, c6, L6, none, 0, ?_, hfl.out, h6.out, at_nil _ _, B6⟩
        rw [hn6.out]
        rfl
    · obtain rfl : ak = 0 := by have := ha.out; omega
      go_wp2_with fail
      obtain ⟨w5, hw5⟩ : ∃ W, W = w4.setCell ⟨w2.heap.size, 1, none⟩ (.int .i64 0) := ⟨_, rfl⟩
      rw [← hw5] at r4 b5 h5 ⊢
      clear hw5
      clear c0 c1 c2 f1
      have c0 := r4.cell0
      have c1 := r4.cell1
      have c2 := r4.cell2
      go_loopw [14, 15, 16] (fun v x k wr => v = .int .u8 1 ∧ x = .slice none 0 0 ∧ k = .int .i64 0 ∧ wr = w5) (fun _ _ _ _ => 0)
      case atStart => exact ⟨rfl, rfl, rfl, rfl⟩
      case round =>
        obtain ⟨rfl, rfl, rfl, rfl⟩ := hrel
        go_wp2_with fail
        refine (with_any a n c L cl 0 none 0 0 [] wr hL.out h5 rfl (KAt.nil _ _) (by omega)).mono ?_
        rintro e w6 ⟨a6, c6, n6, L6, rfl, l6, f6, h6, b6⟩
        have hfl : L6.map CV.flat = putG (L.map CV.flat) (cl, 0, []) := f6.trans (wgo_put _ 0 _ hR.out.up)
        have hn6 : n6 = (putG (L.map CV.flat) (cl, 0, [])).length := by rw [← hfl, List.length_map, l6]
        have B6 := bnext b5 b6
        replace f6 := hid f6
        replace hfl := hid hfl
        replace hn6 := hid hn6
        replace l6 := hid l6
        replace h6 := hid h6
        go_wp2
        (try simp only [Exit.inBlock, Exit.then])
        refine bodyPost_ret (results_tmp4 rfl _ _ _) rfl ?_
        refine ⟨a6, c6, L6, none, 0, ?_, hfl.out, h6.out, at_nil _ _, B6⟩
        rw [hn6.out]
        rfl
  · rw [if_neg hf]
    have d7 : decide ((16 : Int) ≤ (n : Int)) = true := decide_eq_true (by omega)
    replace hf := hid hf
    go_enter Try.func18, Try.ntmps18
    go_wp2_with fail
    refine (rightr_any a n c 0 L _ hL.out h hn).mono ?_
    rintro e w2 ⟨rfl, hb2⟩
    rw [hr.out]
    have b3 := below_lit w2 (.cells #[.int .i64 cl, .int .i64 0, .slice none 0 0] 34)
    have h3 := (h.below hb2).below b3
    have B3 := bnext hb2 b3
    go_wp2_with fail
    refine (find_any a n c 0 L cl _ hL.out h3 hn).mono ?_
    rintro e w4 ⟨⟨fr, rfl, hfr⟩, b4⟩
    have hfr1 : fr = -1 := by
      rcases hfr with ⟨i, hi, _, he⟩ | ⟨he, _⟩
      · exact absurd he (hno.out _ (List.getElem_mem hi))
      · exact he
    subst hfr1
    replace hfr := hid hfr
    replace h3 := hid h3
    have B4 := bnext B3 b4
    go_wp2
    (try simp only [Exit.inBlock, Exit.then])
    refine bodyPost_ret (results_tmp4 rfl _ _ _) rfl ?_
    exact lookr_none 5 w w4 B4

end Go.Proofs.Ythjggjjocfbjcaa
