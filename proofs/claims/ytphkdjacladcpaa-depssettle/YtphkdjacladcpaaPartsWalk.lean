/- Two lists of dependencies, and both together. -/
import Derived.Test.YtphkdjacladcpaaAwk
namespace Go.Proofs.Ytphkdjacladcpaa
open Go.RowKit
set_option linter.unusedVariables false
set_option linter.unusedSimpArgs false

theorem holds_cat (A B : List Dp) (L : List Job) : holdsP (A ++ B) L = (holdsP A L && holdsP B L) := by
  unfold holdsP; rw [List.any_append, Bool.not_or]
theorem never_cat (A B : List Dp) (L : List Job) : neverP (A ++ B) L = (neverP A L || neverP B L) := by
  unfold neverP; rw [List.any_append]
theorem holds_all {D : List Dp} {L : List Job} : holdsP D L = true ↔ ∀ d ∈ D, fate d L = 1 := by
  unfold holdsP
  rw [Bool.not_eq_true', List.any_eq_false]
  refine ⟨fun h d hd => ?_, fun h d hd => ?_⟩
  · have := h d hd; simpa [heldB] using this
  · have := h d hd; simpa [heldB] using this
theorem never_one {D : List Dp} {L : List Job} : neverP D L = true ↔ ∃ d ∈ D, fate d L = 2 := by
  unfold neverP
  rw [List.any_eq_true]
  refine ⟨fun ⟨d, hd, h⟩ => ⟨d, hd, by simpa [lostB] using h⟩, fun ⟨d, hd, h⟩ => ⟨d, hd, by simpa [lostB] using h⟩⟩
theorem not_both {D : List Dp} {L : List Job} (h : holdsP D L = true) : neverP D L = false := by
  rw [Bool.eq_false_iff]
  intro h2
  obtain ⟨d, hd, h3⟩ := never_one.1 h2
  have := holds_all.1 h d hd
  omega

set_option maxRecDepth 100000 in
set_option maxHeartbeats 4000000 in
theorem parts_any (a b c : Option Addr) (n cn m cm k ck : Nat) (A B : List Dp) (L : List Job) (w : World) (hA : A.length = n) (hB : B.length = m) (hL : L.length = k) (lA : n * 16 ≤ 140737488355328) (lB : m * 16 ≤ 140737488355328) (lL : k ≤ 4611686018427387904) (hatA : DAt w a A) (hatB : DAt w b B) (hatL : JAt w c L) :
    Calls Try.prog 5 #[.slice a n cn, .slice b m cm, .slice c k ck] w fun e w' => e = .returned (.bool true) ∧ Below w.heap.size w w' := by
  have kW := fun w => awake_any w
  by_cases h1 : 300 < k
  · have d1 : (300 : Int) < (k : Int) := by omega
    go_enter Try.func5, Try.ntmps5
    go_wp2_with fail
    refine (kW _).mono ?_
    rintro e w1 ⟨rfl, hb1⟩
    go_wp2_with fail
    go_ret
    exact ⟨rfl, hb1⟩
  have d1 : ¬ (300 : Int) < (k : Int) := by omega
  have hsum : IntKind.i64.wrap ((n : Int) + (m : Int)) = (n : Int) + (m : Int) := by simp [IntKind.wrap, IntKind.bits, IntKind.signed]; omega
  have hsum2 : wrap64 ((n : Int) + (m : Int)) = (n : Int) + (m : Int) := by simp [wrap64]; omega
  by_cases h2 : 300 < n + m
  · have d2 : (300 : Int) < (n : Int) + (m : Int) := by omega
    go_enter Try.func5, Try.ntmps5
    go_wp2_with fail
    refine (kW _).mono ?_
    rintro e w1 ⟨rfl, hb1⟩
    go_wp2_with fail
    go_ret
    exact ⟨rfl, hb1⟩
  have d2 : ¬ (300 : Int) < (n : Int) + (m : Int) := by omega
  obtain ⟨i0, hi, hz0, hz1, hz2⟩ := info_parts info114
  have kC := copydeps a n cn A w hA lA hatA
  have kHA := hid (fun wx (hb : Below w.heap.size w wx) => holds_any a n cn A c k ck L wx hA (by omega) (hatA.below hb) hL lL (hatL.below hb))
  have kHB := hid (fun wx (hb : Below w.heap.size w wx) => holds_any b m cm B c k ck L wx hB (by omega) (hatB.below hb) hL lL (hatL.below hb))
  have kNA := hid (fun wx (hb : Below w.heap.size w wx) => never_any a n cn A c k ck L wx hA (by omega) (hatA.below hb) hL lL (hatL.below hb))
  have kNB := hid (fun wx (hb : Below w.heap.size w wx) => never_any b m cm B c k ck L wx hB (by omega) (hatB.below hb) hL lL (hatL.below hb))
  have kH0 := hid (fun wx (hb : Below w.heap.size w wx) => holds_any none 0 0 [] c k ck L wx rfl (by omega) (DAt.nil _ _) hL lL (hatL.below hb))
  have kN0 := hid (fun wx (hb : Below w.heap.size w wx) => never_any none 0 0 [] c k ck L wx rfl (by omega) (DAt.nil _ _) hL lL (hatL.below hb))
  rw [show holdsP [] L = true from rfl] at kH0
  rw [show neverP [] L = false from rfl] at kN0
  have hHC := holds_cat A B L
  have hNC := never_cat A B L
  have hnb := not_both (D := A) (L := L)
  have hone : ∀ u ∈ B.flatMap dc2, u.oneCell' = true := by
    intro u hu
    obtain ⟨x, _, hx⟩ := List.mem_flatMap.1 hu
    exact one_D x.1 x.2 u hx
  have hlB : (B.flatMap dc2).length = m * 2 := by rw [flat_len dc2 2 dc2_len, hB]
  replace hA := hid hA
  replace hB := hid hB
  replace hL := hid hL
  replace hatA := hid hatA
  replace hatB := hid hatB
  replace hatL := hid hatL
  replace hone := hid hone
  replace hlB := hid hlB
  go_enter Try.func5, Try.ntmps5
  go_wp2_with fail
  refine kC.mono ?_
  rintro e w1 ⟨ra, rc, rfl, hrc, ho, hb1⟩
  replace hrc := hid hrc
  have ho1 : w1.ownsRow w.heap.size 51 2 (.slice ra n rc) n (A.flatMap dc2) := by
    have := ho
    unfold DOwn at this
    rw [hA.out] at this
    exact this
  clear ho
  replace ho1 := hid ho1
  go_wp2_with (at_builtin; refine Hid.out ?_)
  refine wpList_cat _ rfl (.tmp 21) (.tmp 22) 22 rfl w.heap.size 51 i0 _ 2 16 Try.underlying22 hi hz0 hz1 hz2 rfl (by omega) _ _ _ rfl ho1.out b m cm (B.flatMap dc2) rfl hlB.out (CAt.below hatB.out hb1) hone.out (by unfold maxLen; omega) (by omega) hb1.size ?_
  intro v' w4 ho4 hg4 hv4
  have B4 : Below w.heap.size w w4 := Below.grown hb1 hg4 hb1.size (fun j hj => (ho1.out.lt _ hj).1)
  obtain ⟨va, vc, rfl, hvc⟩ := owns_form ho4
  have hat4 : DAt w4 va (A ++ B) := by
    unfold DAt
    rw [List.flatMap_append]
    exact owns_cat ho4
  have kHC := hid (fun wx (hb : Below w4.heap.size w4 wx) => holds_any va (n + m) vc (A ++ B) c k ck L wx (by rw [List.length_append, hA.out, hB.out]) (by omega) (hat4.below hb) hL.out lL (hatL.out.below (bnext B4 hb)))
  have kNC := hid (fun wx (hb : Below w4.heap.size w4 wx) => never_any va (n + m) vc (A ++ B) c k ck L wx (by rw [List.length_append, hA.out, hB.out]) (by omega) (hat4.below hb) hL.out lL (hatL.out.below (bnext B4 hb)))
  rw [hHC] at kHC
  rw [hNC] at kNC
  generalize holdsP A L = H1 at *
  generalize holdsP B L = H2 at *
  generalize neverP A L = N1 at *
  generalize neverP B L = N2 at *
  clear hHC hNC ho4 hg4 hv4 hat4 ho1
  replace hnb := hid hnb
  cases H1 with
  | true =>
    have hN := hnb.out rfl
    subst hN
    clear hnb
    rw [Bool.true_and] at kHC
    rw [Bool.false_or] at kNC
    go_wp2_with fail
    refine (kHC.out _ (Below.refl _ _)).mono ?_
    rintro e w5 ⟨rfl, hb5⟩
    have B5 := bnext B4 hb5
    go_wp2_with fail
    refine (kHA.out _ B5).mono ?_
    rintro e w6 ⟨rfl, hb6⟩
    have B6 := bnext B5 hb6
    have C6 := bnext hb5 hb6
    go_wp2_with fail
    refine (kHB.out _ B6).mono ?_
    rintro e w7 ⟨rfl, hb7⟩
    have B7 := bnext B6 hb7
    have C7 := bnext C6 hb7
    have hneq : (H2 != H2) = false := by cases H2 <;> rfl
    go_wp2_with fail
    refine (kNC.out _ C7).mono ?_
    rintro e w8 ⟨rfl, hb8⟩
    have B8 := bnext B7 hb8
    go_wp2_with fail
    refine (kNA.out _ B8).mono ?_
    rintro e w9 ⟨rfl, hb9⟩
    have B9 := bnext B8 hb9
    go_wp2_with fail
    refine (kNB.out _ B9).mono ?_
    rintro e w10 ⟨rfl, hb10⟩
    have B10 := bnext B9 hb10
    have hneq2 : (N2 != N2) = false := by cases N2 <;> rfl
    go_wp2_with fail
    refine (kH0.out _ B10).mono ?_
    rintro e w11 ⟨rfl, hb11⟩
    have B11 := bnext B10 hb11
    go_wp2_with fail
    refine (kN0.out _ B11).mono ?_
    rintro e w12 ⟨rfl, hb12⟩
    have B12 := bnext B11 hb12
    go_wp2_with fail
    refine (kHA.out _ B12).mono ?_
    rintro e w13 ⟨rfl, hb13⟩
    have B13 := bnext B12 hb13
    go_wp2_with fail
    refine (kNA.out _ B13).mono ?_
    rintro e w14 ⟨rfl, hb14⟩
    have B14 := bnext B13 hb14
    go_wp2_with fail
    refine (kW _).mono ?_
    rintro e w15 ⟨rfl, hb15⟩
    go_wp2_with fail
    go_ret
    exact ⟨rfl, bnext B14 hb15⟩
  | false =>
    clear hnb
    rw [Bool.false_and] at kHC
    cases N1 with
    | false =>
      rw [Bool.false_or] at kNC
      go_wp2_with fail
      refine (kHC.out _ (Below.refl _ _)).mono ?_
      rintro e w5 ⟨rfl, hb5⟩
      have B5 := bnext B4 hb5
      go_wp2_with fail
      refine (kHA.out _ B5).mono ?_
      rintro e w6 ⟨rfl, hb6⟩
      have B6 := bnext B5 hb6
      have C6 := bnext hb5 hb6
      go_wp2_with fail
      refine (kNC.out _ C6).mono ?_
      rintro e w8 ⟨rfl, hb8⟩
      have B8 := bnext B6 hb8
      go_wp2_with fail
      refine (kNA.out _ B8).mono ?_
      rintro e w9 ⟨rfl, hb9⟩
      have B9 := bnext B8 hb9
      go_wp2_with fail
      refine (kNB.out _ B9).mono ?_
      rintro e w10 ⟨rfl, hb10⟩
      have B10 := bnext B9 hb10
      have hneq2 : (N2 != N2) = false := by cases N2 <;> rfl
      go_wp2_with fail
      refine (kH0.out _ B10).mono ?_
      rintro e w11 ⟨rfl, hb11⟩
      have B11 := bnext B10 hb11
      go_wp2_with fail
      refine (kN0.out _ B11).mono ?_
      rintro e w12 ⟨rfl, hb12⟩
      have B12 := bnext B11 hb12
      go_wp2_with fail
      refine (kHA.out _ B12).mono ?_
      rintro e w13 ⟨rfl, hb13⟩
      have B13 := bnext B12 hb13
      go_wp2_with fail
      refine (kW _).mono ?_
      rintro e w15 ⟨rfl, hb15⟩
      go_wp2_with fail
      go_ret
      exact ⟨rfl, bnext B13 hb15⟩
    | true =>
      rw [Bool.true_or] at kNC
      go_wp2_with fail
      refine (kHC.out _ (Below.refl _ _)).mono ?_
      rintro e w5 ⟨rfl, hb5⟩
      have B5 := bnext B4 hb5
      go_wp2_with fail
      refine (kHA.out _ B5).mono ?_
      rintro e w6 ⟨rfl, hb6⟩
      have B6 := bnext B5 hb6
      have C6 := bnext hb5 hb6
      go_wp2_with fail
      refine (kNC.out _ C6).mono ?_
      rintro e w8 ⟨rfl, hb8⟩
      have B8 := bnext B6 hb8
      go_wp2_with fail
      refine (kNA.out _ B8).mono ?_
      rintro e w9 ⟨rfl, hb9⟩
      have B9 := bnext B8 hb9
      go_wp2_with fail
      refine (kH0.out _ B9).mono ?_
      rintro e w11 ⟨rfl, hb11⟩
      have B11 := bnext B9 hb11
      go_wp2_with fail
      refine (kN0.out _ B11).mono ?_
      rintro e w12 ⟨rfl, hb12⟩
      have B12 := bnext B11 hb12
      go_wp2_with fail
      refine (kHA.out _ B12).mono ?_
      rintro e w13 ⟨rfl, hb13⟩
      have B13 := bnext B12 hb13
      go_wp2_with fail
      refine (kW _).mono ?_
      rintro e w15 ⟨rfl, hb15⟩
      go_wp2_with fail
      go_ret
      exact ⟨rfl, bnext B13 hb15⟩

end Go.Proofs.Ytphkdjacladcpaa
