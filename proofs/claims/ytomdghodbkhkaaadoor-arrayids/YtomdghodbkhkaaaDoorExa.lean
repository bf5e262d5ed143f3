/- Expand, whatever it is handed. -/
import Derived.Test.YtomdghodbkhkaaaDoorExp3
import Derived.Test.YtomdghodbkhkaaaDoorExp5
import Derived.Test.YtomdghodbkhkaaaDoorExp6
import Derived.Test.YtomdghodbkhkaaaDoorPrn
namespace Go.Proofs.YtomdghodbkhkaaaDoor
open Go.RowKit
set_option linter.unusedVariables false
set_option linter.unusedSimpArgs false

theorem expand_any (id : Int) (a : Option Addr) (k c : Nat) (L : List Int) (s : Spc) (now : Int) (D : List Dp) (w : World) (hn : L.length = k) (hl : k ≤ 4611686018427387904) (hat : IAt w a L) (hD : D.length = s.dn) (hsl : s.dn * 16 ≤ 140737488355328) (hda : DAt w s.da D) (hid2 : id ≤ 9223372036854775807) :
    Calls Tryd.prog 9 #[.int .i64 id, .slice a k c, .agg (sc s).toArray, .int .i64 now] w fun e w' => ExTold w' w.heap.size L id s now D e ∧ Below w.heap.size w w' := by
  by_cases h1 : id < 1
  · exact ex_low id a k c L s now D w hn hl hat hD hsl hda h1
  · have h1' : 1 ≤ id := by omega
    cases hm : rightB (mkJ 1 s now)
    · rcases Nat.eq_zero_or_pos k with h0 | h0
      · exact ex_bad_z id a k c L s now D w hn hl hat hD hsl hda h1' hid2 h0 hm
      · cases hL : listB L
        · exact ex_list id a k c L s now D w hn hl hat hD hsl hda h1' hid2 h0 hL
        · exact ex_bad_p id a k c L s now D w hn hl hat hD hsl hda h1' hid2 h0 hL hm
    · by_cases hov : 1073741824 - (cntE L : Int) + 1 < id
      · rcases Nat.eq_zero_or_pos k with h0 | h0
        · exact ex_over_z id a k c L s now D w hn hl hat hD hsl hda h1' hid2 h0 hm hov
        · cases hL : listB L
          · exact ex_list id a k c L s now D w hn hl hat hD hsl hda h1' hid2 h0 hL
          · have h32 : k ≤ 32 := by have := ((listB_iff L).1 hL).2.1; omega
            by_cases hk : k = 1
            · exact ex_over_o id a k c L s now D w hn hl hat hD hsl hda h1' hid2 h0 hL hk hm hov h32
            · exact ex_over_m id a k c L s now D w hn hl hat hD hsl hda h1' hid2 h0 hL (by omega) hm hov h32
      · rcases Nat.eq_zero_or_pos k with h0 | h0
        · exact ex_ok_z id a k c L s now D w hn hl hat hD hsl hda h1' hid2 h0 hm hov
        · cases hL : listB L
          · exact ex_list id a k c L s now D w hn hl hat hD hsl hda h1' hid2 h0 hL
          · have h32 : k ≤ 32 := by have := ((listB_iff L).1 hL).2.1; omega
            by_cases hk : k = 1
            · exact ex_ok_o id a k c L s now D w hn hl hat hD hsl hda h1' hid2 h0 hL hk hm hov h32
            · exact ex_ok_m id a k c L s now D w hn hl hat hD hsl hda h1' hid2 h0 hL (by omega) hm hov h32

set_option maxRecDepth 100000 in
theorem sameints (a a' : Option Addr) (k c c' : Nat) (L : List Int) (w : World) (hn : L.length = k) (hl : k ≤ 4611686018427387904) (hat : IAt w a L) (hat' : IAt w a' L) :
    Calls Tryd.prog 7 #[.slice a k c, .slice a' k c'] w fun e w' => e = .returned (.bool true) ∧ Below w.heap.size w w' := by
  replace hn := hid hn
  replace hat := hid hat
  replace hat' := hid hat'
  go_enter Tryd.func7, Tryd.ntmps7
  go_wp2_with fail
  go_loopw [5] (fun i wr => ∃ j : Nat, j ≤ k ∧ i = .int .i64 (j : Int) ∧ Below w.heap.size w wr) (fun i _ => k - (intOf i).toNat)
  case atStart => exact ⟨0, Nat.zero_le _, rfl, Below.refl _ _⟩
  case round =>
    obtain ⟨j, hj, rfl, hb⟩ := hrel
    by_cases hlt : j < k
    · have hjT : j < L.length := by rw [hn.out]; exact hlt
      obtain ⟨b, o, e⟩ := hat.out.place (by omega)
      subst e
      obtain ⟨b', o', e⟩ := hat'.out.place (by omega)
      subst e
      have x0 := (hat.out.below hb).one hjT
      have y0 := (hat'.out.below hb).one hjT
      generalize itAt L j = X at *
      go_wp2_with fail
      go_quiet (fail)
      have B1 := below_drewN hb nq
      go_wp2_with fail
      go_roundw
      case rel => exact ⟨j + 1, by omega, by go_num, B1⟩
      case measure => simp [intOf]; omega
    · have hje : j = k := by omega
      subst hje
      go_wp2
      go_ret
      exact ⟨rfl, hb⟩

theorem parse_err (l : List UInt8) (E : Int) (h : parseP l = ([], E)) (hE : E ≠ 0) (hl : l.length ≤ 9223372036854775807) (w : World) :
    Calls Tryd.prog 6 #[Str l] w fun e w' => e = .returned (.tuple #[.slice none 0 0, .int .i64 E]) ∧ Below w.heap.size w w' := by
  refine (parse_any l hl w).mono ?_
  rintro e w' ⟨h1 | h1, hb⟩
  · rw [h] at h1; exact ⟨h1.2, hb⟩
  · rw [h] at h1; exact absurd h1.1 hE
theorem parse_ok (l : List UInt8) (N : List Nat) (h : parseP l = (N, 0)) (hl : l.length ≤ 9223372036854775807) (w : World) :
    Calls Tryd.prog 6 #[Str l] w fun e w' => (∃ a c, e = .returned (.tuple #[.slice a N.length c, .int .i64 0]) ∧ N.length ≤ c ∧ IOwn w' w.heap.size (.slice a N.length c) (cs N)) ∧ Below w.heap.size w w' := by
  refine (parse_any l hl w).mono ?_
  rintro e w' ⟨h1 | h1, hb⟩
  · rw [h] at h1; exact absurd rfl h1.1
  · rw [h] at h1
    obtain ⟨_, a, n, c, rfl, hn, ho⟩ := h1
    subst hn
    obtain ⟨a2, c2, e2, hc2⟩ := owns_form ho
    simp only [Value.slice.injEq] at e2
    rw [cs_len] at hc2
    have e3 := e2.2.2
    have hc3 : N.length ≤ c := by rw [e3]; exact hc2
    exact ⟨⟨a, c, rfl, hc3, ho⟩, hb⟩
theorem print_ok (a : Option Addr) (c : Nat) (N : List Nat) (w : World) (hN : listN N) (hkc : N.length ≤ c) (hat : IAt w a (cs N)) (ht : Tb w) :
    Calls Tryd.prog 5 #[.slice a N.length c] w fun e w' => e = .returned (.tuple #[Str (prT N), .int .i64 0]) ∧ Below w.heap.size w w' := by
  refine (print_any a N.length c (cs N) w (cs_len N) (by have := hN.2.1; omega) hkc hat ht).mono ?_
  rintro e w' ⟨h1 | ⟨N2, h2, h3, rfl⟩, hb⟩
  · exact absurd (cs_list hN) h1.1
  · have : N = N2 := by
      have := congrArg (List.map Int.toNat) h2
      unfold cs at this
      rw [List.map_map, List.map_map] at this
      have hid2 : (Int.toNat ∘ Int.ofNat) = id := by funext x; rfl
      rw [hid2, List.map_id, List.map_id] at this
      exact this
    subst this
    exact ⟨rfl, hb⟩
theorem listN_ex : listN [0, 2, 4, 6, 9] := ⟨by decide, by decide, by decide, by unfold Rise; decide⟩
theorem ex_p1 : parseP [48, 45, 54, 58, 50, 44, 57] = ([0, 2, 4, 6, 9], 0) := by decide +kernel
theorem ex_p2 : parseP [49, 44, 49] = ([], 140) := by decide +kernel
theorem ex_p3 : parseP [48, 45, 51, 50] = ([], 3) := by decide +kernel
theorem ex_p4 : parseP [50, 45, 49] = ([], 100) := by decide +kernel
theorem ex_pr : prT [0, 2, 4, 6, 9] = [48, 45, 54, 58, 50, 44, 57] := by decide +kernel
def spE : Spc := ⟨ByteArray.empty, ByteArray.empty, ByteArray.empty, ByteArray.empty, 1, 1, 1, none, 0, 0⟩
theorem ex_right : rightB (mkJ 1 spE 5) = true := by decide +kernel
theorem ex_E : exE [1, 3] 7 spE 5 = 0 := by
  unfold exE
  rw [ex_right, show listB [1, 3] = true by decide +kernel, if_neg (by decide), if_neg (by decide)]
end Go.Proofs.YtomdghodbkhkaaaDoor
