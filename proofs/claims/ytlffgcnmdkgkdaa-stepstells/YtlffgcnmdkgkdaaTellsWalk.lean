/- The law StepsTells answers true, whatever it is handed. -/
import Derived.Test.YtlffgcnmdkgkdaaRefAdd
import Derived.Test.YtlffgcnmdkgkdaaFitsWalk
namespace Go.Proofs.Ytlffgcnmdkgkdaa
open Go.RowKit

set_option maxRecDepth 100000 in
set_option maxHeartbeats 4000000 in
theorem tells_any (s : Option Addr) (n c : Nat) (C : List Cut) (a b m : Int) (w : World) (hn : C.length = n) (hl : n * 16 ≤ 140737488355328) (hat : SAt w s C) :
    Calls Try.prog 3 #[.slice s n c, .agg #[.int .i64 a, .int .i64 b, .int .i64 m]] w fun e w' => e = .returned (.bool true) ∧ Below w.heap.size w w' := by
  replace hn := hid hn
  replace hat := hid hat
  have b0 := below_lit w (.cells #[.int .i64 a, .int .i64 b, .int .i64 m] 24)
  have X0 := Sp.new w a b m
  have S0 := hat.out.below b0
  have kC := copy_any s n c C (w.alloc (.cells #[.int .i64 a, .int .i64 b, .int .i64 m] 24)) hn.out hl S0
  go_enter Try.func3, Try.ntmps3
  go_wp2_with fail
  refine kC.mono ?_
  rintro e w1 ⟨a1, c1, rfl, o1, b1⟩
  have X1 := X0.below b1
  have S1 := S0.below b1
  have P1 := o1.sat
  have B1 := bnext b0 b1
  clear b0 b1 X0 S0 kC o1
  have xa := X1.c0
  have xb := X1.c1
  have xm := X1.c2
  go_wp2_with fail
  refine (flat_any m w1).mono ?_
  rintro e w2 ⟨a2, c2, rfl, F2, b2⟩
  have X2 := X1.below b2
  have S2 := S1.below b2
  have P2 := P1.below b2
  have B2 := bnext B1 b2
  clear b2 X1 S1 P1 B1 xa xb xm
  have xa := X2.c0
  have xb := X2.c1
  have xm := X2.c2
  go_wp2_with fail
  refine (flatr_any m w2).mono ?_
  rintro e w3 ⟨a3, c3, rfl, G3, b3⟩
  have X3 := X2.below b3
  have S3 := S2.below b3
  have P3 := P2.below b3
  have F3 := F2.below b3
  have B3 := bnext B2 b3
  clear b3 X2 S2 P2 F2 B2 xa xb xm
  have xa := X3.c0
  have xb := X3.c1
  have xm := X3.c2
  go_wp2_with fail
  refine (at_any a1 n c1 C a w3 hn.out (by omega) P3).mono ?_
  rintro e w4 ⟨rfl, b4⟩
  have X4 := X3.below b4
  have S4 := S3.below b4
  have P4 := P3.below b4
  have F4 := F3.below b4
  have G4 := G3.below b4
  have B4 := bnext B3 b4
  clear b4 X3 S3 P3 F3 G3 B3 xa xb xm
  have xa := X4.c0
  have xb := X4.c1
  have xm := X4.c2
  go_wp2_with fail
  refine (atr_any s n c C a w4 hn.out (by omega) S4).mono ?_
  rintro e w5 ⟨rfl, b5⟩
  have X5 := X4.below b5
  have S5 := S4.below b5
  have P5 := P4.below b5
  have F5 := F4.below b5
  have G5 := G4.below b5
  have B5 := bnext B4 b5
  clear b5 X4 S4 P4 F4 G4 B4 xa xb xm
  have xa := X5.c0
  have xb := X5.c1
  have xm := X5.c2
  go_wp2_with fail
  refine (least_any a1 n c1 C a b w5 hn.out (by omega) P5).mono ?_
  rintro e w6 ⟨rfl, b6⟩
  have X6 := X5.below b6
  have S6 := S5.below b6
  have P6 := P5.below b6
  have F6 := F5.below b6
  have G6 := G5.below b6
  have B6 := bnext B5 b6
  clear b6 X5 S5 P5 F5 G5 B5 xa xb xm
  have xa := X6.c0
  have xb := X6.c1
  have xm := X6.c2
  go_wp2_with fail
  refine (Leastr_any s n c C a b w6 hn.out (by omega) S6).mono ?_
  rintro e w7 ⟨rfl, b7⟩
  have X7 := X6.below b7
  have S7 := S6.below b7
  have P7 := P6.below b7
  have F7 := F6.below b7
  have G7 := G6.below b7
  have B7 := bnext B6 b7
  clear b7 X6 S6 P6 F6 G6 B6 xa xb xm
  have xa := X7.c0
  have xb := X7.c1
  have xm := X7.c2
  go_wp2_with fail
  refine (add_any a1 n c1 C a b m w7 hn.out (by omega) P7).mono ?_
  rintro e w8 ⟨a8, c8, rfl, O8, b8⟩
  have X8 := X7.below b8
  have S8 := S7.below b8
  have P8 := P7.below b8
  have F8 := F7.below b8
  have G8 := G7.below b8
  have B8 := bnext B7 b8
  have hz8 := b8.size
  clear X7 F7 G7 xa xb xm
  have xa := X8.c0
  have xb := X8.c1
  have xm := X8.c2
  go_wp2_with fail
  refine (addr_any s n c C a b m w8 hn.out (by omega) S8).mono ?_
  rintro e w9 ⟨a9, c9, rfl, Q9, b9⟩
  have S9 := S8.below b9
  have P9 := P8.below b9
  have F9 := F8.below b9
  have G9 := G8.below b9
  have O9 := O8.below b9
  have B9 := bnext B8 b9
  have b79 := bnext b8 b9
  clear X8 S8 P8 F8 G8 O8 b8 b9 B8 xa xb xm
  obtain ⟨fl, hfl⟩ : ∃ x, (flatA m).1.length = x := ⟨_, rfl⟩
  obtain ⟨al, hal⟩ : ∃ x, (addA C a b m).1.length = x := ⟨_, rfl⟩
  have hfb : fl ≤ 1 := by rw [← hfl]; unfold flatA; split <;> simp
  have hab : al ≤ 4611686018427387904 := by
    rw [← hal]
    unfold addA
    split
    · rename_i h1
      have h2 := adT_len C a b m C.length
      have h3 := h1.1.2.1
      have h4 : (addP C a b m).1.length ≤ 3 * C.length := h2
      split
      · simp
      · split
        · simp
        · show (addP C a b m).1.length ≤ _; omega
    · simp
  rw [hfl, hal]
  rw [hal] at O9
  replace hfl := hid hfl
  replace hal := hid hal
  generalize flatA m = FA at *
  generalize addA C a b m = AA at *
  generalize atA C a = TA at *
  generalize lsA C a b = LA at *
  go_wp2_with fail
  refine (same_any a2 a3 fl c2 c3 FA.1 w9 hfl.out (by omega) F9 G9).mono ?_
  rintro e w10 ⟨rfl, b10⟩
  have S10 := S9.below b10
  have P10 := P9.below b10
  have Q10 := Q9.below b10
  have O10 := O9.below b10
  have B10 := bnext B9 b10
  have b710 := bnext b79 b10
  clear b10 S9 P9 Q9 O9 F9 G9 B9 b79
  go_wp2_with fail
  refine (same_any a8 a9 al c8 c9 AA.1 w10 hal.out hab O10.sat Q10).mono ?_
  rintro e w11 ⟨rfl, b11⟩
  have S11 := S10.below b11
  have P11 := P10.below b11
  have O11 := O10.below b11
  have B11 := bnext B10 b11
  have b711 := bnext b710 b11
  clear b11 S10 P10 Q10 O10 B10 b710
  go_wp2_with fail
  refine (right_any a1 n c1 C w11 hn.out (by omega) P11).mono ?_
  rintro e w12 ⟨rfl, b12⟩
  have S12 := S11.below b12
  have O12 := O11.below b12
  have B12 := bnext B11 b12
  have b712 := bnext b711 b12
  clear b12 S11 P11 O11 B11 b711
  go_wp2_with fail
  refine (rightr_any s n c C w12 hn.out (by omega) S12).mono ?_
  rintro e w13 ⟨rfl, b13⟩
  have O13 := O12.below b13
  have b713 := bnext b712 b13
  have hz13 := b713.size
  clear b13 S12 O12 B12 b712
  unfold SOwn at O13
  rw [hal.out] at O13
  replace O13 := hid O13
  generalize rightB C = RB at *
  go_wp2_with fail
  go_loopw [22] (fun i wr => ∃ j : Nat, j ≤ al ∧ i = .int .i64 (j : Int) ∧ (∃ xs, Hid (wr.ownsRow w7.heap.size 36 2 (.slice a8 al c8) al xs)) ∧ Below w7.heap.size w7 wr) (fun i _ => al - (intOf i).toNat)
  case atStart => exact ⟨0, Nat.zero_le _, rfl, ⟨_, O13⟩, b713⟩
  case round =>
    obtain ⟨j, hj, rfl, ⟨xs, hO⟩, hb⟩ := hrel
    clear O13 b713
    by_cases hlt : j < al
    · have hxl := hO.out.1
      obtain ⟨pb, po, pe, hpl⟩ : ∃ g, ∃ _u : Unit, a8 = some ⟨g, 0, none⟩ ∧ w7.heap.size ≤ g := by
        rcases hO.out.2 with ⟨hv, _⟩ | ⟨g', cap', cur, hv, hg, _⟩
        · simp only [Value.slice.injEq] at hv; omega
        · simp only [Value.slice.injEq] at hv
          exact ⟨g', (), hv.1, hg⟩
      subst pe
      have y0 := World.ownsRow.cellAt hO.out (j * 2 + 1) (by omega)
      rw [List.getElem?_eq_getElem (show j * 2 + 1 < xs.length by omega)] at y0
      have f0 := World.ownsRow.frozenAt hO.out (j * 2 + 1)
      have hO2 := hid (World.ownsRow.stored hO.out (j * 2 + 1) (.int .i64 77)).1
      have K2 : Kp (fun k => k = pb) wr (wr.setCell ⟨pb, j * 2 + 1, none⟩ (.int .i64 77)) := Kp.setCell (S := fun k => k = pb) (p := ⟨pb, j * 2 + 1, none⟩) (Kp.refl _ _) rfl _
      have hb2 := hid (hb.trans (K2.below (fun k e => by omega) hb.size))
      clear K2
      generalize xs[j * 2 + 1] = OV at *
      go_wp2_with fail
      go_roundw
      case rel => exact ⟨j + 1, by omega, by go_num, ⟨_, hO2⟩, hb2.out⟩
      case measure => simp [intOf]; omega
    · have hje : j = al := by omega
      subst hje
      have kS := same_any a1 s n c1 c C wr hn.out (by omega) (P7.below hb) (S7.below hb)
      have BB := bnext B7 hb
      go_wp2_with fail
      refine kS.mono ?_
      rintro e w15 ⟨rfl, b15⟩
      have B15 := bnext BB b15
      go_wp2_with fail
      refine (awake_any _).mono ?_
      rintro e w16 ⟨rfl, b16⟩
      have B16 := bnext B15 b16
      go_wp2
      go_ret
      exact ⟨rfl, B16⟩

end Go.Proofs.Ytlffgcnmdkgkdaa
