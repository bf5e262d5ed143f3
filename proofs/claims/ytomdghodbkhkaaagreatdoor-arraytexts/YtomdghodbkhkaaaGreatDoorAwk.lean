/- Expand, whatever it is handed. -/
import Derived.Test.YtomdghodbkhkaaaGreatDoorExp6
import Derived.Test.YtomdghodbkhkaaaGreatDoorPrn
namespace Go.Proofs.YtomdghodbkhkaaaGreatDoor
open Go.RowKit
set_option linter.unusedVariables false
set_option linter.unusedSimpArgs false

theorem expand_any (id : Int) (a : Option Addr) (k c : Nat) (L : List Int) (s : Spc) (now : Int) (D : List Dp) (w : World) (hn : L.length = k) (hl : k ≤ 4611686018427387904) (hat : IAt w a L) (hD : D.length = s.dn) (hsl : s.dn * 16 ≤ 140737488355328) (hda : DAt w s.da D) (hid2 : id ≤ 9223372036854775807) :
    Calls Tryz.prog 13 #[.int .i64 id, .slice a k c, .agg (sc s).toArray, .int .i64 now] w fun e w' => ExTold w' w.heap.size L id s now D e ∧ Below w.heap.size w w' := by
  by_cases h1 : id < 1
  · exact ex_low id a k c L s now D w hn hl hat hD hsl hda h1
  · have h1' : 1 ≤ id := by omega
    cases hm : rightB (mkJ 1 s now)
    · rcases Nat.eq_zero_or_pos k with h0 | h0
      · exact ex_bad_z id a k c L s now D w hn hl hat hD hsl hda h1' hid2 h0 hm
      · cases hL : listB L
        · exact ex_list id a k c L s now D w hn hl hat hD hsl hda h1' hid2 h0 hL
        · exact ex_bad_p id a k c L s now D w hn hl hat hD hsl hda h1' hid2 h0 hL hm
    · by_cases hov : 1073741824 - (cntE L : Int) + 1 < id
      · rcases Nat.eq_zero_or_pos k with h0 | h0
        · exact ex_over_z id a k c L s now D w hn hl hat hD hsl hda h1' hid2 h0 hm hov
        · cases hL : listB L
          · exact ex_list id a k c L s now D w hn hl hat hD hsl hda h1' hid2 h0 hL
          · have h32 : k ≤ 32 := by have := ((listB_iff L).1 hL).2.1; omega
            by_cases hk : k = 1
            · exact ex_over_o id a k c L s now D w hn hl hat hD hsl hda h1' hid2 h0 hL hk hm hov h32
            · exact ex_over_m id a k c L s now D w hn hl hat hD hsl hda h1' hid2 h0 hL (by omega) hm hov h32
      · rcases Nat.eq_zero_or_pos k with h0 | h0
        · exact ex_ok_z id a k c L s now D w hn hl hat hD hsl hda h1' hid2 h0 hm hov
        · cases hL : listB L
          · exact ex_list id a k c L s now D w hn hl hat hD hsl hda h1' hid2 h0 hL
          · have h32 : k ≤ 32 := by have := ((listB_iff L).1 hL).2.1; omega
            by_cases hk : k = 1
            · exact ex_ok_o id a k c L s now D w hn hl hat hD hsl hda h1' hid2 h0 hL hk hm hov h32
            · exact ex_ok_m id a k c L s now D w hn hl hat hD hsl hda h1' hid2 h0 hL (by omega) hm hov h32

set_option maxRecDepth 100000 in
theorem sameints (a a' : Option Addr) (k c c' : Nat) (L : List Int) (w : World) (hn : L.length = k) (hl : k ≤ 4611686018427387904) (hat : IAt w a L) (hat' : IAt w a' L) :
    Calls Tryz.prog 10 #[.slice a k c, .slice a' k c'] w fun e w' => e = .returned (.bool true) ∧ Below w.heap.size w w' := by
  replace hn := hid hn
  replace hat := hid hat
  replace hat' := hid hat'
  go_enter Tryz.func10, Tryz.ntmps10
  go_wp2_with fail
  go_loopw [5] (fun i wr => ∃ j : Nat, j ≤ k ∧ i = .int .i64 (j : Int) ∧ Below w.heap.size w wr) (fun i _ => k - (intOf i).toNat)
  case atStart => exact ⟨0, Nat.zero_le _, rfl, Below.refl _ _⟩
  case round =>
    obtain ⟨j, hj, rfl, hb⟩ := hrel
    by_cases hlt : j < k
    · have hjT : j < L.length := by rw [hn.out]; exact hlt
      obtain ⟨b, o, e⟩ := hat.out.place (by omega)
      subst e
      obtain ⟨b', o', e⟩ := hat'.out.place (by omega)
      subst e
      have x0 := (hat.out.below hb).one hjT
      have y0 := (hat'.out.below hb).one hjT
      generalize itAt L j = X at *
      go_wp2_with fail
      go_quiet (fail)
      have B1 := below_drewN hb nq
      go_wp2_with fail
      go_roundw
      case rel => exact ⟨j + 1, by omega, by go_num, B1⟩
      case measure => simp [intOf]; omega
    · have hje : j = k := by omega
      subst hje
      go_wp2
      go_ret
      exact ⟨rfl, hb⟩

theorem parse_err (l : List UInt8) (E : Int) (h : parseP l = ([], E)) (hE : E ≠ 0) (hl : l.length ≤ 9223372036854775807) (w : World) :
    Calls Tryz.prog 6 #[Str l] w fun e w' => e = .returned (.tuple #[.slice none 0 0, .int .i64 E]) ∧ Below w.heap.size w w' := by
  refine (parse_any l hl w).mono ?_
  rintro e w' ⟨h1 | h1, hb⟩
  · rw [h] at h1; exact ⟨h1.2, hb⟩
  · rw [h] at h1; exact absurd h1.1 hE
theorem parse_ok (l : List UInt8) (N : List Nat) (h : parseP l = (N, 0)) (hl : l.length ≤ 9223372036854775807) (w : World) :
    Calls Tryz.prog 6 #[Str l] w fun e w' => (∃ a c, e = .returned (.tuple #[.slice a N.length c, .int .i64 0]) ∧ N.length ≤ c ∧ IOwn w' w.heap.size (.slice a N.length c) (cs N)) ∧ Below w.heap.size w w' := by
  refine (parse_any l hl w).mono ?_
  rintro e w' ⟨h1 | h1, hb⟩
  · rw [h] at h1; exact absurd rfl h1.1
  · rw [h] at h1
    obtain ⟨_, a, n, c, rfl, hn, ho⟩ := h1
    subst hn
    obtain ⟨a2, c2, e2, hc2⟩ := owns_form ho
    simp only [Value.slice.injEq] at e2
    rw [cs_len] at hc2
    have e3 := e2.2.2
    have hc3 : N.length ≤ c := by rw [e3]; exact hc2
    exact ⟨⟨a, c, rfl, hc3, ho⟩, hb⟩
theorem print_ok (a : Option Addr) (c : Nat) (N : List Nat) (w : World) (hN : listN N) (hkc : N.length ≤ c) (hat : IAt w a (cs N)) (ht : Tb w) :
    Calls Tryz.prog 8 #[.slice a N.length c] w fun e w' => e = .returned (.tuple #[Str (prT N), .int .i64 0]) ∧ Below w.heap.size w w' := by
  refine (print_any a N.length c (cs N) w (cs_len N) (by have := hN.2.1; omega) hkc hat ht).mono ?_
  rintro e w' ⟨h1 | ⟨N2, h2, h3, rfl⟩, hb⟩
  · exact absurd (cs_list hN) h1.1
  · have : N = N2 := by
      have := congrArg (List.map Int.toNat) h2
      unfold cs at this
      rw [List.map_map, List.map_map] at this
      have hid2 : (Int.toNat ∘ Int.ofNat) = id := by funext x; rfl
      rw [hid2, List.map_id, List.map_id] at this
      exact this
    subst this
    exact ⟨rfl, hb⟩
theorem listN_ex : listN [0, 2, 4, 6, 9] := ⟨by decide, by decide, by decide, by unfold Rise; decide⟩
theorem ex_p1 : parseP [48, 45, 54, 58, 50, 44, 57] = ([0, 2, 4, 6, 9], 0) := by decide +kernel
theorem ex_p2 : parseP [49, 44, 49] = ([], 140) := by decide +kernel
theorem ex_p3 : parseP [48, 45, 51, 50] = ([], 3) := by decide +kernel
theorem ex_p4 : parseP [50, 45, 49] = ([], 100) := by decide +kernel
theorem ex_pr : prT [0, 2, 4, 6, 9] = [48, 45, 54, 58, 50, 44, 57] := by decide +kernel
def spE : Spc := ⟨ByteArray.empty, ByteArray.empty, ByteArray.empty, ByteArray.empty, 1, 1, 1, none, 0, 0⟩
theorem ex_right : rightB (mkJ 1 spE 5) = true := by decide +kernel
theorem ex_E : exE [1, 3] 7 spE 5 = 0 := by
  unfold exE
  rw [ex_right, show listB [1, 3] = true by decide +kernel, if_neg (by decide), if_neg (by decide)]
end Go.Proofs.YtomdghodbkhkaaaGreatDoor

namespace Go.Proofs.YtomdghodbkhkaaaGreatDoor
open Go.RowKit
set_option linter.unusedVariables false
set_option linter.unusedSimpArgs false

/-- Two jobs as the chapter has them. -/
theorem ex_jobs (w : World) (b : Nat) (hat : IAt w (some ⟨b, 0, none⟩) [1, 3]) :
    Calls Tryz.prog 13 #[.int .i64 7, .slice (some ⟨b, 0, none⟩) 2 2, .agg #[.string ByteArray.empty, .string ByteArray.empty, .string ByteArray.empty, .string ByteArray.empty, .int .i64 1, .int .i64 1, .int .i64 1, .slice none 0 0], .int .i64 5] w fun e w' =>
      (∃ g, e = .returned (.tuple #[.slice (some ⟨g, 0, none⟩) 2 2, .int .i64 0]) ∧ w'.cell? ⟨g, 17, none⟩ = some (.int .i64 8) ∧ w'.cell? ⟨g, 18, none⟩ = some (.int .i64 7) ∧ w'.cell? ⟨g, 19, none⟩ = some (.int .i64 3)) ∧ Below w.heap.size w w' := by
  have h := expand_any 7 (some ⟨b, 0, none⟩) 2 2 [1, 3] spE 5 [] w rfl (by decide) hat rfl (by decide) (DAt.nil _ _) (by decide)
  refine h.mono ?_
  rintro e w' ⟨h1 | h1, hb⟩
  · exact absurd ex_E h1.1
  · obtain ⟨_, g, M, rfl, hM⟩ := h1
    refine ⟨⟨g, rfl, ?_⟩, hb⟩
    have hl : M.length = 2 := hM.len
    obtain ⟨x, y, hj, _⟩ := hM.job 1 (by omega)
    have e0 := hM.row.jat.cell (i := 1) (by omega) 0 (by omega)
    have e1 := hM.row.jat.cell (i := 1) (by omega) 1 (by omega)
    have e2 := hM.row.jat.cell (i := 1) (by omega) 2 (by omega)
    rw [hj] at e0 e1 e2
    exact ⟨e0, e1, e2⟩

set_option maxRecDepth 100000 in
set_option maxHeartbeats 4000000 in
theorem awake_any (w : World) (ht : Tb w) : Calls Tryz.prog 11 #[] w fun e w' => e = .returned (.bool true) ∧ Below w.heap.size w w' := by
  have k1 := fun w => parse_ok _ _ ex_p1 (by decide) w
  have k3 := fun w => parse_err _ _ ex_p2 (by decide) (by decide) w
  have k4 := fun w => parse_err _ _ ex_p3 (by decide) (by decide) w
  have k5 := fun w => parse_err _ _ ex_p4 (by decide) (by decide) w
  change ∀ w, Calls Tryz.prog 6 #[.string ⟨#[48, 45, 54, 58, 50, 44, 57]⟩] w _ at k1
  change ∀ w, Calls Tryz.prog 6 #[.string ⟨#[49, 44, 49]⟩] w _ at k3
  change ∀ w, Calls Tryz.prog 6 #[.string ⟨#[48, 45, 51, 50]⟩] w _ at k4
  change ∀ w, Calls Tryz.prog 6 #[.string ⟨#[50, 45, 49]⟩] w _ at k5
  go_enter Tryz.func11, Tryz.ntmps11
  go_wp2_with fail
  refine (k1 w).mono ?_
  rintro e w1 ⟨⟨a, c, rfl, hkc, ho1⟩, hb1⟩
  have t1 := ht.below hb1
  have k2 := print_ok a c [0, 2, 4, 6, 9] w1 listN_ex hkc ho1.iat t1
  rw [ex_pr] at k2
  change Calls Tryz.prog 8 #[.slice a 5 c] w1 fun e w' => e = .returned (.tuple #[.string ⟨#[48, 45, 54, 58, 50, 44, 57]⟩, .int .i64 0]) ∧ Below w1.heap.size w1 w' at k2
  change w1.ownsRow w.heap.size 3 1 (.slice a 5 c) 5 _ at ho1
  replace ho1 := hid ho1
  replace t1 := hid t1
  replace ht := hid ht
  go_wp2_with fail
  refine k2.mono ?_
  rintro e w2 ⟨rfl, hb2⟩
  have B2 := bnext hb1 hb2
  have o2 := hid (owns_below ho1.out hb2)
  go_wp2_with fail
  refine (k3 _).mono ?_
  rintro e w3 ⟨rfl, hb3⟩
  have B3 := bnext B2 hb3
  have o3 := hid (owns_below o2.out hb3)
  go_wp2_with fail
  refine (k4 _).mono ?_
  rintro e w4 ⟨rfl, hb4⟩
  have B4 := bnext B3 hb4
  have o4 := hid (owns_below o3.out hb4)
  go_wp2_with fail
  refine (k5 _).mono ?_
  rintro e w5 ⟨rfl, hb5⟩
  have B5 := bnext B4 hb5
  have o5 := hid (owns_below o4.out hb5)
  clear o2 o3 o4 B2 B3 B4 hb1 hb2 hb3 hb4 hb5
  have bl6 := below_lit w5 (.cells #[.int .i64 1, .int .i64 3] 3)
  have at6 : IAt (w5.alloc (.cells #[.int .i64 1, .int .i64 3] 3)) (some ⟨w5.heap.size, 0, none⟩) [1, 3] := cat_lit w5 3 [.int .i64 1, .int .i64 3] _ rfl
  have kx := ex_jobs _ _ at6
  have o6 := hid (owns_below o5.out bl6)
  have B6 := bnext B5 bl6
  replace at6 := hid at6
  clear o5 B5
  go_wp2_with fail
  refine kx.mono ?_
  rintro e w7 ⟨⟨g, rfl, z0, z1, z2⟩, hb7⟩
  have o7 := owns_below o6.out hb7
  have B7 := bnext B6 hb7
  have bl8 := below_lit w7 (.cells #[.int .i64 0, .int .i64 2, .int .i64 4, .int .i64 6, .int .i64 9] 3)
  have at8 : IAt (w7.alloc (.cells #[.int .i64 0, .int .i64 2, .int .i64 4, .int .i64 6, .int .i64 9] 3)) (some ⟨w7.heap.size, 0, none⟩) [0, 2, 4, 6, 9] := cat_lit w7 3 [.int .i64 0, .int .i64 2, .int .i64 4, .int .i64 6, .int .i64 9] _ rfl
  have at9 : IAt (w7.alloc (.cells #[.int .i64 0, .int .i64 2, .int .i64 4, .int .i64 6, .int .i64 9] 3)) a [0, 2, 4, 6, 9] := CAt.below (owns_cat o7) bl8
  have ks := sameints a (some ⟨w7.heap.size, 0, none⟩) 5 c 5 [0, 2, 4, 6, 9] _ rfl (by decide) at9 at8
  have B8 := bnext B7 bl8
  replace o7 := hid o7
  replace at8 := hid at8
  replace at9 := hid at9
  clear bl6 bl8 B6 B7 o6
  go_wp2_with fail
  refine ks.mono ?_
  rintro e w9 ⟨rfl, hb9⟩
  have y0 := stay hb9 (stay (below_lit w7 (.cells #[.int .i64 0, .int .i64 2, .int .i64 4, .int .i64 6, .int .i64 9] 3)) z0)
  have y1 := stay hb9 (stay (below_lit w7 (.cells #[.int .i64 0, .int .i64 2, .int .i64 4, .int .i64 6, .int .i64 9] 3)) z1)
  have y2 := stay hb9 (stay (below_lit w7 (.cells #[.int .i64 0, .int .i64 2, .int .i64 4, .int .i64 6, .int .i64 9] 3)) z2)
  have B9 := bnext B8 hb9
  go_wp2
  go_ret
  exact ⟨rfl, B9⟩
end Go.Proofs.YtomdghodbkhkaaaGreatDoor
