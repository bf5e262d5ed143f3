/- The chapter's examples. -/
import Derived.Test.YtledgaiekbpndaaTurn
import Derived.Test.YtledgaiekbpndaaGather
namespace Go.Proofs.Ytledgaiekbpndaa
open Go.RowKit

def exL : List Nod := [(4, true, 1), (8, true, 1)]
def exM : List Nod := [(4, false, 1), (8, true, 1)]
def exN : List Nod := [(4, true, 2), (8, true, 1)]

theorem ex_new : newP [4, 8] = (exL, 0) := by decide +kernel
theorem ex_fail : failP exL 0 = (exM, 0) := by decide +kernel
theorem ex_again : failP exM 0 = ([], 180) := by decide +kernel
theorem ex_rise : riseP exM 0 = (exN, 0) := by decide +kernel
theorem ex_none : riseP exN 2 = ([], 2) := by decide +kernel
theorem ex_upM : upP exM = 2 := by decide +kernel
theorem ex_upN : upP exN = 3 := by decide +kernel
theorem ex_able : ableP exL 3 5 = 2 := by decide +kernel

/-- What is told of a list of n nodes. -/
theorem told_n {f : FuncId} {args : Array Value} {w : World} {D : List Nod} {E : Int} (n : Nat) (hD : D.length = n) (h : Calls Try.prog f args w fun e w' => NTold (D, E) w e w') :
    Calls Try.prog f args w fun e w' => ∃ a c, e = .returned (.tuple #[.slice a n c, .int .i64 E]) ∧ n ≤ c ∧ DOwn w' w.heap.size (.slice a n c) D ∧ Below w.heap.size w w' := by
  subst hD
  exact h

set_option maxRecDepth 100000 in
set_option maxHeartbeats 1000000 in
theorem awake_any (w : World) : Calls Try.prog 23 #[] w fun e w' => e = .returned (.bool true) ∧ Below w.heap.size w w' := by
  have bl0 := below_lit w (.cells #[.int .i64 4, .int .i64 8] 3)
  have kN := new_any (some ⟨w.heap.size, 0, none⟩) 2 2 [4, 8] _ rfl (by omega) (cat_lit w 3 _ #[.int .i64 4, .int .i64 8] rfl)
  rw [ex_new] at kN
  replace kN := told_n 2 rfl kN
  go_enter Try.func23, Try.ntmps23
  go_wp2_with fail
  refine kN.mono ?_
  rintro e w1 ⟨a1, c1, rfl, hc1, ho1, hb1⟩
  have B1 := bnext bl0 hb1
  have hd1 := hid ho1.dat
  have k1 := fail_any a1 2 c1 exL 0 w1 rfl (by omega) hd1.out
  rw [ex_fail] at k1
  replace k1 := told_n 2 rfl k1
  clear kN ho1 hb1 bl0
  go_wp2_with fail
  refine k1.mono ?_
  rintro e w2 ⟨a2, c2, rfl, hc2, ho2, hb2⟩
  have B2 := bnext B1 hb2
  have hd2 := hid ho2.dat
  have hd1b := hid (hd1.out.below hb2)
  have k2 := fail_any a2 2 c2 exM 0 w2 rfl (by omega) hd2.out
  rw [ex_again] at k2
  replace k2 := told_n 0 rfl k2
  clear k1 ho2 hb2 hd1
  go_wp2_with fail
  refine k2.mono ?_
  rintro e w3 ⟨a3, c3, rfl, hc3, ho3, hb3⟩
  have B3 := bnext B2 hb3
  have hd2b := hid (hd2.out.below hb3)
  have hd1c := hid (hd1b.out.below hb3)
  have k3 := rise_any a2 2 c2 exM 0 w3 rfl (by omega) hd2b.out
  rw [ex_rise] at k3
  replace k3 := told_n 2 rfl k3
  clear k2 ho3 hb3 hd2 hd1b
  go_wp2_with fail
  refine k3.mono ?_
  rintro e w4 ⟨a4, c4, rfl, hc4, ho4, hb4⟩
  have B4 := bnext B3 hb4
  have hd4 := hid ho4.dat
  have hd2c := hid (hd2b.out.below hb4)
  have hd1d := hid (hd1c.out.below hb4)
  have k4 := rise_any a4 2 c4 exN 2 w4 rfl (by omega) hd4.out
  rw [ex_none] at k4
  replace k4 := told_n 0 rfl k4
  obtain ⟨b4, o4, e⟩ := hd4.out.place (by decide)
  subst e
  clear k3 ho4 hb4 hd2b hd1c
  go_wp2_with fail
  refine k4.mono ?_
  rintro e w5 ⟨a5, c5, rfl, hc5, ho5, hb5⟩
  have B5 := bnext B4 hb5
  have k5 := up_any a2 2 c2 exM w5 rfl (by omega) hc2 (hd2c.out.below hb5)
  rw [ex_upM] at k5
  have hd4b := hid (hd4.out.below hb5)
  have hd1e := hid (hd1d.out.below hb5)
  clear k4 ho5 hb5 hd4 hd1d hd2c
  go_wp2_with fail
  refine k5.mono ?_
  rintro e w6 ⟨rfl, hb6⟩
  have B6 := bnext B5 hb6
  have hd4c := hid (hd4b.out.below hb6)
  have hd1f := hid (hd1e.out.below hb6)
  have k6 := up_any (some ⟨b4, o4, none⟩) 2 c4 exN w6 rfl (by omega) hc4 hd4c.out
  rw [ex_upN] at k6
  clear k5 hb6 hd4b hd1e
  go_wp2_with fail
  refine k6.mono ?_
  rintro e w7 ⟨rfl, hb7⟩
  have B7 := bnext B6 hb7
  have hd4d := hd4c.out.below hb7
  have hd1g := hid (hd1f.out.below hb7)
  obtain ⟨y0, y1, y2⟩ := hd4d.one (i := 0) (by decide)
  rw [Nat.zero_mul, Nat.add_zero, show (nodAt exN 0).2.2 = 2 from rfl] at y2
  have k7 := able_any a1 2 c1 exL 3 5 w7 rfl (by omega) hc1 (by omega) hd1g.out
  rw [ex_able] at k7
  clear k6 hb7 hd4c hd1f hd4d y0 y1
  go_wp2_with fail
  refine k7.mono ?_
  rintro e w8 ⟨rfl, hb8⟩
  have B8 := bnext B7 hb8
  go_wp2
  go_ret
  exact ⟨rfl, B8⟩

/-- A place that is picked among n. -/
theorem pick_any (i : Int) (n : Nat) (w : World) (hn : 0 < n) (hl : n ≤ 4611686018427387904) : Calls Try.prog 24 #[.int .i64 i, .int .i64 (n : Int)] w fun e w' => ∃ k : Nat, k < n ∧ e = .returned (.int .i64 (k : Int)) ∧ w' = w := by
  have d1 : decide ((n : Int) < 1) = false := by simp; omega
  have hn0 : ¬ (n : Int) = 0 := by omega
  have h1 := Int.tmod_lt_of_pos i (show (0 : Int) < (n : Int) by omega)
  have h2 : -(n : Int) < Int.tmod i n := by
    have := Int.tmod_lt_of_pos (-i) (show (0 : Int) < (n : Int) by omega)
    rw [Int.neg_tmod] at this
    omega
  generalize hr : Int.tmod i n = r at *
  by_cases h3 : r < 0
  · have d3 : decide (r < 0) = true := by simpa using h3
    go_enter Try.func24, Try.ntmps24
    go_wp2
    go_ret
    exact ⟨(r + n).toNat, by omega, ret_int (by omega), rfl⟩
  · have d3 : decide (r < 0) = false := by simpa using h3
    go_enter Try.func24, Try.ntmps24
    go_wp2
    go_ret
    exact ⟨r.toNat, by omega, ret_int (by omega), rfl⟩

end Go.Proofs.Ytledgaiekbpndaa
