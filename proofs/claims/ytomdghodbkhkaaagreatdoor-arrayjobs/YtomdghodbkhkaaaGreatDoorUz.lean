/- The document's Right. -/
import Derived.Test.YtomdghodbkhkaaaGreatDoorUv
import Derived.Test.YtomdghodbkhkaaaGreatDoorUw
import Derived.Test.YtomdghodbkhkaaaGreatDoorUx
import Derived.Test.YtomdghodbkhkaaaGreatDoorUy0
import Derived.Test.YtomdghodbkhkaaaGreatDoorUy1
import Derived.Test.YtomdghodbkhkaaaGreatDoorUy2
namespace Go.Proofs.YtomdghodbkhkaaaGreatDoor
open Go.RowKit
set_option linter.unusedVariables false
set_option linter.unusedSimpArgs false

theorem rright_any (j : Job) (w : World) (h0 : 0 ≤ j.on) (h1 : j.on < 4294967296) : Calls Tryz.prog 33 #[.agg (jc j).toArray] w fun e w' => e = .returned (.bool (rightB j)) ∧ Below w.heap.size w w' := by
  by_cases hc : RightAll j
  · by_cases e1 : j.st = 1
    · exact rr_e1 j w h0 h1 hc e1
    by_cases e2 : j.st = 2
    · exact rr_e2 j w h0 h1 hc e1 e2
    by_cases e8 : j.st = 8
    · exact rr_e8 j w h0 h1 hc e1 e2 e8
    by_cases e6 : j.st = 6
    · by_cases e0 : j.on = 0
      · exact rr_e60 j w h0 h1 hc e1 e2 e8 e6 e0
      · exact rr_e6n j w h0 h1 hc e1 e2 e8 e6 e0
    cases eo : overB j.st with
    | true => exact rr_over j w h0 h1 hc e1 e2 e8 e6 eo
    | false => exact rr_none j w h0 h1 hc e1 e2 e8 e6 eo
  · have hr := right_notall j hc
    cases d0 : decide (j.id < 1) with
    | true => exact rr_n0 j w h0 h1 hr d0
    | false =>
    cases d1 : decide (1073741824 < j.id) with
    | true => exact rr_n1 j w h0 h1 hr d0 d1
    | false =>
    cases d2 : decide (j.arr < 0) with
    | true => exact rr_n2 j w h0 h1 hr d0 d1 d2
    | false =>
    cases d3 : decide (j.id < j.arr) with
    | true => exact rr_n3 j w h0 h1 hr d0 d1 d2 d3
    | false =>
    cases d4 : decide (j.idx < 0) with
    | true => exact rr_n4 j w h0 h1 hr d0 d1 d2 d3 d4
    | false =>
    cases d5 : decide (j.s.nodes < 1) with
    | true => exact rr_n5 j w h0 h1 hr d0 d1 d2 d3 d4 d5
    | false =>
    cases d6 : decide (32 < j.s.nodes) with
    | true => exact rr_n6 j w h0 h1 hr d0 d1 d2 d3 d4 d5 d6
    | false =>
    cases d7 : decide (j.s.cores < 1) with
    | true => exact rr_n7 j w h0 h1 hr d0 d1 d2 d3 d4 d5 d6 d7
    | false =>
    cases d8 : decide (64 < j.s.cores) with
    | true => exact rr_n8 j w h0 h1 hr d0 d1 d2 d3 d4 d5 d6 d7 d8
    | false =>
    cases d9 : decide (j.s.lim < 1) with
    | true => exact rr_n9 j w h0 h1 hr d0 d1 d2 d3 d4 d5 d6 d7 d8 d9
    | false =>
    cases d10 : decide (1048576 < j.s.lim) with
    | true => exact rr_n10 j w h0 h1 hr d0 d1 d2 d3 d4 d5 d6 d7 d8 d9 d10
    | false =>
    cases d11 : decide (j.sub < 0) with
    | true => exact rr_n11 j w h0 h1 hr d0 d1 d2 d3 d4 d5 d6 d7 d8 d9 d10 d11
    | false =>
    cases d12 : decide (1099511627776 < j.sub) with
    | true => exact rr_n12 j w h0 h1 hr d0 d1 d2 d3 d4 d5 d6 d7 d8 d9 d10 d11 d12
    | false =>
    refine absurd ?_ hc
    simp only [decide_eq_false_iff_not] at *
    unfold RightAll
    simp only [MT]
    omega

end Go.Proofs.YtomdghodbkhkaaaGreatDoor
