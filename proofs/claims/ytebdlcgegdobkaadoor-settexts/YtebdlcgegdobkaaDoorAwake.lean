/- The chapter's examples. -/
import Derived.Test.YtebdlcgegdobkaaDoorParse2
namespace Go.Proofs.YtebdlcgegdobkaaDoor
open Go.RowKit

theorem v1 : ofP [0, 1, 2, 5] = (39, 0) := by decide +kernel
theorem v2 : firstP 39 2 = (3, true) := by decide +kernel
theorem v3 : firstP 39 5 = (0, false) := by decide +kernel
theorem v4 : parseP [48, 45, 51, 49] = (4294967295, 0) := by decide +kernel
theorem v5 : parseP [48, 44, 49] = (0, 100) := by decide +kernel
theorem v6 : ofP [32] = (0, 2) := by decide +kernel
theorem v7 : pr 39 = [48, 45, 50, 44, 53] := by decide +kernel
theorem v8 : pr 0 = none4 := by decide +kernel
theorem v9 : cnt 39 = 4 := by decide +kernel

set_option maxHeartbeats 1600000 in
theorem awake_any (w : World) : Calls Tryd.prog 18 #[] w fun e w' => e = .returned (.bool true) ∧ Below w.heap.size w w' := by
  have k2 := fun w => first_any 39 2 (by omega) w
  have k3 := fun w => first_any 39 5 (by omega) w
  have k4 := fun w => parse_any [48, 45, 51, 49] (by simp) w
  have k5 := fun w => parse_any [48, 44, 49] (by simp) w
  have k7 := fun w => print_any 39 (by omega) w
  have k8 := fun w => print_any 0 (by omega) w
  have k9 := fun w => count_any 39 (by omega) w
  rw [v2] at k2; rw [v3] at k3; rw [v4] at k4; rw [v5] at k5; rw [v7] at k7; rw [v8] at k8; rw [v9] at k9
  go_enter Tryd.func18, Tryd.ntmps18
  go_wp2_with fail
  have k1 := of_any (some ⟨w.heap.size, 0, none⟩) 4 4 [0, 1, 2, 5] (w.alloc (.cells #[.int .i64 0, .int .i64 1, .int .i64 2, .int .i64 5] 3)) rfl (by omega) (cat_lit _ _ _ _ rfl)
  rw [v1] at k1
  have b1 := below_lit w (.cells #[.int .i64 0, .int .i64 1, .int .i64 2, .int .i64 5] 3)
  refine k1.mono ?_
  rintro e w1 ⟨rfl, rfl⟩
  generalize w.alloc (.cells #[.int .i64 0, .int .i64 1, .int .i64 2, .int .i64 5] 3) = w1 at *
  go_wp2_with fail
  refine (k2 _).mono ?_
  rintro e w2 ⟨rfl, hb2⟩
  go_wp2_with fail
  refine (k3 _).mono ?_
  rintro e w3 ⟨rfl, hb3⟩
  go_wp2_with fail
  refine (k4 _).mono ?_
  rintro e w4 ⟨rfl, hb4⟩
  go_wp2_with fail
  refine (k5 _).mono ?_
  rintro e w5 ⟨rfl, hb5⟩
  have B5 := bnext (bnext (bnext (bnext b1 hb2) hb3) hb4) hb5
  go_wp2_with fail
  have k6 := of_any (some ⟨w5.heap.size, 0, none⟩) 1 1 [32] (w5.alloc (.cells #[.int .i64 32] 3)) rfl (by omega) (cat_lit _ _ _ _ rfl)
  rw [v6] at k6
  have b6 := below_lit w5 (.cells #[.int .i64 32] 3)
  refine k6.mono ?_
  rintro e w6 ⟨rfl, rfl⟩
  generalize w5.alloc (.cells #[.int .i64 32] 3) = w6 at *
  go_wp2_with fail
  refine (k7 _).mono ?_
  rintro e w7 ⟨rfl, hb7⟩
  unfold Str
  go_wp2_with fail
  refine (k8 _).mono ?_
  rintro e w8 ⟨rfl, hb8⟩
  unfold Str
  go_wp2_with fail
  refine (k9 _).mono ?_
  rintro e w9 ⟨rfl, hb9⟩
  go_wp2
  go_ret
  exact ⟨rfl, bnext (bnext (bnext (bnext B5 b6) hb7) hb8) hb9⟩

end Go.Proofs.YtebdlcgegdobkaaDoor
