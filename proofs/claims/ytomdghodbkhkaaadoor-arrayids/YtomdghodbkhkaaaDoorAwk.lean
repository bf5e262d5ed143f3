/- The chapter's examples. -/
import Derived.Test.YtomdghodbkhkaaaDoorExa
namespace Go.Proofs.YtomdghodbkhkaaaDoor
open Go.RowKit
set_option linter.unusedVariables false
set_option linter.unusedSimpArgs false

/-- Two jobs as the chapter has them. -/
theorem ex_jobs (w : World) (b : Nat) (hat : IAt w (some ⟨b, 0, none⟩) [1, 3]) :
    Calls Tryd.prog 9 #[.int .i64 7, .slice (some ⟨b, 0, none⟩) 2 2, .agg #[.string ByteArray.empty, .string ByteArray.empty, .string ByteArray.empty, .string ByteArray.empty, .int .i64 1, .int .i64 1, .int .i64 1, .slice none 0 0], .int .i64 5] w fun e w' =>
      (∃ g, e = .returned (.tuple #[.slice (some ⟨g, 0, none⟩) 2 2, .int .i64 0]) ∧ w'.cell? ⟨g, 17, none⟩ = some (.int .i64 8) ∧ w'.cell? ⟨g, 18, none⟩ = some (.int .i64 7) ∧ w'.cell? ⟨g, 19, none⟩ = some (.int .i64 3)) ∧ Below w.heap.size w w' := by
  have h := expand_any 7 (some ⟨b, 0, none⟩) 2 2 [1, 3] spE 5 [] w rfl (by decide) hat rfl (by decide) (DAt.nil _ _) (by decide)
  refine h.mono ?_
  rintro e w' ⟨h1 | h1, hb⟩
  · exact absurd ex_E h1.1
  · obtain ⟨_, g, M, rfl, hM⟩ := h1
    refine ⟨⟨g, rfl, ?_⟩, hb⟩
    have hl : M.length = 2 := hM.len
    obtain ⟨x, y, hj, _⟩ := hM.job 1 (by omega)
    have e0 := hM.row.jat.cell (i := 1) (by omega) 0 (by omega)
    have e1 := hM.row.jat.cell (i := 1) (by omega) 1 (by omega)
    have e2 := hM.row.jat.cell (i := 1) (by omega) 2 (by omega)
    rw [hj] at e0 e1 e2
    exact ⟨e0, e1, e2⟩

set_option maxRecDepth 100000 in
set_option maxHeartbeats 4000000 in
theorem awake_any (w : World) (ht : Tb w) : Calls Tryd.prog 8 #[] w fun e w' => e = .returned (.bool true) ∧ Below w.heap.size w w' := by
  have k1 := fun w => parse_ok _ _ ex_p1 (by decide) w
  have k3 := fun w => parse_err _ _ ex_p2 (by decide) (by decide) w
  have k4 := fun w => parse_err _ _ ex_p3 (by decide) (by decide) w
  have k5 := fun w => parse_err _ _ ex_p4 (by decide) (by decide) w
  change ∀ w, Calls Tryd.prog 6 #[.string ⟨#[48, 45, 54, 58, 50, 44, 57]⟩] w _ at k1
  change ∀ w, Calls Tryd.prog 6 #[.string ⟨#[49, 44, 49]⟩] w _ at k3
  change ∀ w, Calls Tryd.prog 6 #[.string ⟨#[48, 45, 51, 50]⟩] w _ at k4
  change ∀ w, Calls Tryd.prog 6 #[.string ⟨#[50, 45, 49]⟩] w _ at k5
  go_enter Tryd.func8, Tryd.ntmps8
  go_wp2_with fail
  refine (k1 w).mono ?_
  rintro e w1 ⟨⟨a, c, rfl, hkc, ho1⟩, hb1⟩
  have t1 := ht.below hb1
  have k2 := print_ok a c [0, 2, 4, 6, 9] w1 listN_ex hkc ho1.iat t1
  rw [ex_pr] at k2
  change Calls Tryd.prog 5 #[.slice a 5 c] w1 fun e w' => e = .returned (.tuple #[.string ⟨#[48, 45, 54, 58, 50, 44, 57]⟩, .int .i64 0]) ∧ Below w1.heap.size w1 w' at k2
  change w1.ownsRow w.heap.size 3 1 (.slice a 5 c) 5 _ at ho1
  replace ho1 := hid ho1
  replace t1 := hid t1
  replace ht := hid ht
  go_wp2_with fail
  refine k2.mono ?_
  rintro e w2 ⟨rfl, hb2⟩
  have B2 := bnext hb1 hb2
  have o2 := hid (owns_below ho1.out hb2)
  go_wp2_with fail
  refine (k3 _).mono ?_
  rintro e w3 ⟨rfl, hb3⟩
  have B3 := bnext B2 hb3
  have o3 := hid (owns_below o2.out hb3)
  go_wp2_with fail
  refine (k4 _).mono ?_
  rintro e w4 ⟨rfl, hb4⟩
  have B4 := bnext B3 hb4
  have o4 := hid (owns_below o3.out hb4)
  go_wp2_with fail
  refine (k5 _).mono ?_
  rintro e w5 ⟨rfl, hb5⟩
  have B5 := bnext B4 hb5
  have o5 := hid (owns_below o4.out hb5)
  clear o2 o3 o4 B2 B3 B4 hb1 hb2 hb3 hb4 hb5
  have bl6 := below_lit w5 (.cells #[.int .i64 1, .int .i64 3] 3)
  have at6 : IAt (w5.alloc (.cells #[.int .i64 1, .int .i64 3] 3)) (some ⟨w5.heap.size, 0, none⟩) [1, 3] := cat_lit w5 3 [.int .i64 1, .int .i64 3] _ rfl
  have kx := ex_jobs _ _ at6
  have o6 := hid (owns_below o5.out bl6)
  have B6 := bnext B5 bl6
  replace at6 := hid at6
  clear o5 B5
  go_wp2_with fail
  refine kx.mono ?_
  rintro e w7 ⟨⟨g, rfl, z0, z1, z2⟩, hb7⟩
  have o7 := owns_below o6.out hb7
  have B7 := bnext B6 hb7
  have bl8 := below_lit w7 (.cells #[.int .i64 0, .int .i64 2, .int .i64 4, .int .i64 6, .int .i64 9] 3)
  have at8 : IAt (w7.alloc (.cells #[.int .i64 0, .int .i64 2, .int .i64 4, .int .i64 6, .int .i64 9] 3)) (some ⟨w7.heap.size, 0, none⟩) [0, 2, 4, 6, 9] := cat_lit w7 3 [.int .i64 0, .int .i64 2, .int .i64 4, .int .i64 6, .int .i64 9] _ rfl
  have at9 : IAt (w7.alloc (.cells #[.int .i64 0, .int .i64 2, .int .i64 4, .int .i64 6, .int .i64 9] 3)) a [0, 2, 4, 6, 9] := CAt.below (owns_cat o7) bl8
  have ks := sameints a (some ⟨w7.heap.size, 0, none⟩) 5 c 5 [0, 2, 4, 6, 9] _ rfl (by decide) at9 at8
  have B8 := bnext B7 bl8
  replace o7 := hid o7
  replace at8 := hid at8
  replace at9 := hid at9
  clear bl6 bl8 B6 B7 o6
  go_wp2_with fail
  refine ks.mono ?_
  rintro e w9 ⟨rfl, hb9⟩
  have y0 := stay hb9 (stay (below_lit w7 (.cells #[.int .i64 0, .int .i64 2, .int .i64 4, .int .i64 6, .int .i64 9] 3)) z0)
  have y1 := stay hb9 (stay (below_lit w7 (.cells #[.int .i64 0, .int .i64 2, .int .i64 4, .int .i64 6, .int .i64 9] 3)) z1)
  have y2 := stay hb9 (stay (below_lit w7 (.cells #[.int .i64 0, .int .i64 2, .int .i64 4, .int .i64 6, .int .i64 9] 3)) z2)
  have B9 := bnext B8 hb9
  go_wp2
  go_ret
  exact ⟨rfl, B9⟩
end Go.Proofs.YtomdghodbkhkaaaDoor
