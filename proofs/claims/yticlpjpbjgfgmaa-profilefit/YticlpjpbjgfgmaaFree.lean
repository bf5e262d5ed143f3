/- New, Take, Give and Free of the program. -/
import Derived.Test.YticlpjpbjgfgmaaChg
namespace Go.Proofs.Yticlpjpbjgfgmaa
open Go.RowKit

def takeA (P : List (List Cut)) (on : Nat) (c p q : Int) : List (List Cut) × Int := if mayP P on c p q then adA P on (-c) p q else ([], 2)
def giveA (P : List (List Cut)) (on : Nat) (c p q : Int) : List (List Cut) × Int := if mayP P on c p q then adA P on c p q else ([], 2)

theorem short_of {L : List Nd1} (h : RightPr (cutsOf L)) : ∀ x ∈ L, x.C.length ≤ 4096 := fun x hx => (h.2.2 _ (List.mem_map.2 ⟨x, hx, rfl⟩)).2.1

set_option maxHeartbeats 400000 in
theorem take_any (a : Option Addr) (n c0 : Nat) (L : List Nd1) (on : Nat) (c p q : Int) (w : World) (hn : L.length = n) (hl : n ≤ 4611686018427387904) (hs : ∀ x ∈ L, x.C.length ≤ 4611686018427387904) (hon : on < 4294967296) (hat : PAt w a L) :
    Calls Try.prog 14 #[.slice a n c0, .int .u32 (on : Int), .int .i64 c, .int .i64 p, .int .i64 q] w fun e w' => PTold (takeA (cutsOf L) on c p q) w e w' := by
  have kM := may_any a n c0 L on c p q w hn hl hs hon hat
  by_cases h : mayP (cutsOf L) on c p q
  · have hf := hid (show takeA (cutsOf L) on c p q = adA (cutsOf L) on (-c) p q from if_pos h)
    rw [mayB_iff.2 h] at kM
    have hn32 : n ≤ 32 := by have := h.1.2.1; rw [cutsOf_len, hn] at this; exact this
    have kA := fun w' (hb : Below w.heap.size w w') => added_any a n c0 L on (-c) p q w' hn hn32 (short_of h.1) hon (hat.below hb)
    have hw : IntKind.i64.wrap (-c) = -c := by rw [IntKind.wrap_i64]; have := h.2.2.1; omega
    replace h := hid h
    replace hn := hid hn
    clear hs hat
    go_enter Try.func14, Try.ntmps14
    go_wp2_with fail
    refine kM.mono ?_
    rintro e w1 ⟨rfl, hb1⟩
    go_wp2_with fail
    refine (kA _ hb1).mono ?_
    rintro e w2 ⟨ad, k, M, rfl, hM, hP, hb2⟩
    go_wp2
    go_ret2
    rw [hf.out]
    exact ⟨ad, k, M, rfl, hM, hP.low hb1.size, bnext hb1 hb2⟩
  · have hf := hid (show takeA (cutsOf L) on c p q = ([], 2) from if_neg h)
    rw [mayB_no h] at kM
    replace h := hid h
    replace hn := hid hn
    clear hs hat
    go_enter Try.func14, Try.ntmps14
    go_wp2_with fail
    refine kM.mono ?_
    rintro e w1 ⟨rfl, hb1⟩
    go_wp2
    go_ret2
    rw [hf.out]
    exact ptold_nil _ _ _ hb1

set_option maxHeartbeats 400000 in
theorem give_any (a : Option Addr) (n c0 : Nat) (L : List Nd1) (on : Nat) (c p q : Int) (w : World) (hn : L.length = n) (hl : n ≤ 4611686018427387904) (hs : ∀ x ∈ L, x.C.length ≤ 4611686018427387904) (hon : on < 4294967296) (hat : PAt w a L) :
    Calls Try.prog 16 #[.slice a n c0, .int .u32 (on : Int), .int .i64 c, .int .i64 p, .int .i64 q] w fun e w' => PTold (giveA (cutsOf L) on c p q) w e w' := by
  have kM := may_any a n c0 L on c p q w hn hl hs hon hat
  by_cases h : mayP (cutsOf L) on c p q
  · have hf := hid (show giveA (cutsOf L) on c p q = adA (cutsOf L) on c p q from if_pos h)
    rw [mayB_iff.2 h] at kM
    have hn32 : n ≤ 32 := by have := h.1.2.1; rw [cutsOf_len, hn] at this; exact this
    have kA := fun w' (hb : Below w.heap.size w w') => added_any a n c0 L on c p q w' hn hn32 (short_of h.1) hon (hat.below hb)
    replace h := hid h
    replace hn := hid hn
    clear hs hat
    go_enter Try.func16, Try.ntmps16
    go_wp2_with fail
    refine kM.mono ?_
    rintro e w1 ⟨rfl, hb1⟩
    go_wp2_with fail
    refine (kA _ hb1).mono ?_
    rintro e w2 ⟨ad, k, M, rfl, hM, hP, hb2⟩
    go_wp2
    go_ret2
    rw [hf.out]
    exact ⟨ad, k, M, rfl, hM, hP.low hb1.size, bnext hb1 hb2⟩
  · have hf := hid (show giveA (cutsOf L) on c p q = ([], 2) from if_neg h)
    rw [mayB_no h] at kM
    replace h := hid h
    replace hn := hid hn
    clear hs hat
    go_enter Try.func16, Try.ntmps16
    go_wp2_with fail
    refine kM.mono ?_
    rintro e w1 ⟨rfl, hb1⟩
    go_wp2
    go_ret2
    rw [hf.out]
    exact ptold_nil _ _ _ hb1

abbrev coreOk (x : Int) : Prop := 1 ≤ x ∧ x ≤ 64
abbrev newP (Z : List Int) : Prop := 1 ≤ Z.length ∧ Z.length ≤ 32 ∧ ∀ x ∈ Z, coreOk x
def newA (Z : List Int) : List (List Cut) × Int := if newP Z then (Z.map fun c => [(0, c)], 0) else ([], 2)
def NewTo (Z : List Int) (j : Nat) : Prop := ∀ x ∈ Z.take j, coreOk x

theorem NewTo.next {Z : List Int} {j : Nat} (h : NewTo Z j) (hj : j < Z.length) (k : coreOk Z[j]) : NewTo Z (j + 1) := by
  intro x hx
  rw [List.take_add_one, List.getElem?_eq_getElem hj] at hx
  rcases List.mem_append.1 hx with h1 | h1
  · exact h x h1
  · simp at h1; rw [h1]; exact k

set_option maxRecDepth 100000 in
set_option maxHeartbeats 800000 in
theorem new_any (a : Option Addr) (n c0 : Nat) (Z : List Int) (w : World) (hn : Z.length = n) (hl : n ≤ 4611686018427387904) (hat : CAt w a (Z.map Nd.I)) :
    Calls Try.prog 10 #[.slice a n c0] w fun e w' => PTold (newA Z) w e w' := by
  replace hn := hid hn
  replace hat := hid hat
  rcases Nat.lt_or_ge n 1 with h0 | h0
  · have hf := hid (show newA Z = ([], 2) from if_neg fun h => by have := h.1; rw [hn.out] at this; omega)
    have d0 : decide ((n : Int) < 1) = true := decide_eq_true (by omega)
    go_enter Try.func10, Try.ntmps10
    go_wp2
    go_ret2
    rw [hf.out]
    exact ptold_nil _ _ _ (Below.refl _ _)
  · have d0 : decide ((n : Int) < 1) = false := decide_eq_false (by omega)
    rcases Nat.lt_or_ge 32 n with h1 | h1
    · have hf := hid (show newA Z = ([], 2) from if_neg fun h => by have := h.2.1; rw [hn.out] at this; omega)
      have d1 : decide ((32 : Int) < (n : Int)) = true := decide_eq_true (by omega)
      go_enter Try.func10, Try.ntmps10
      go_wp2
      go_ret2
      rw [hf.out]
      exact ptold_nil _ _ _ (Below.refl _ _)
    · have d1 : decide ((32 : Int) < (n : Int)) = false := decide_eq_false (by omega)
      obtain ⟨b, o, e⟩ := Nd.iat_place hat.out (by intro e; have := hn.out; rw [e] at this; simp at this; omega)
      subst e
      go_enter Try.func10, Try.ntmps10
      go_wp2_with fail
      go_loopw [4, 18] (fun v i wr => ∃ j : Nat, j ≤ n ∧ i = .int .i64 (j : Int) ∧ (∃ M : List Nd1, M.length = j ∧ Hid (cutsOf M = (Z.take j).map fun c => [(0, c)]) ∧ Hid (POwn wr w.heap.size v M)) ∧ Hid (NewTo Z j) ∧ Below w.heap.size w wr) (fun _ i _ => n - (intOf i).toNat)
      case atStart => exact ⟨0, Nat.zero_le _, rfl, ⟨[], rfl, hid rfl, hid (POwn.nil _ _)⟩, hid (fun x hx => by simp at hx), Below.refl _ _⟩
      case round =>
        obtain ⟨j, hj, rfl, ⟨M, hM, hcM, hv⟩, hok, hb⟩ := hrel
        by_cases hlt : j < n
        · have hjL : j < Z.length := by rw [hn.out]; exact hlt
          have x0 := Nd.iat_cell (hat.out.below hb) j hjL
          have hmem := List.getElem_mem hjL
          by_cases h2 : Z[j] < 1
          · have hf := hid (show newA Z = ([], 2) from if_neg fun h => by have := (h.2.2 _ hmem).1; omega)
            have d2 : decide (Z[j] < 1) = true := decide_eq_true h2
            generalize Z[j] = X at *
            go_wp2
            go_ret2
            rw [hf.out]
            exact ptold_nil _ _ _ hb
          · have d2 : decide (Z[j] < 1) = false := decide_eq_false h2
            by_cases h3 : 64 < Z[j]
            · have hf := hid (show newA Z = ([], 2) from if_neg fun h => by have := (h.2.2 _ hmem).2; omega)
              have d3 : decide (64 < Z[j]) = true := decide_eq_true h3
              generalize Z[j] = X at *
              go_wp2
              go_ret2
              rw [hf.out]
              exact ptold_nil _ _ _ hb
            · have d3 : decide (64 < Z[j]) = false := decide_eq_false h3
              have hok2 := hid (hok.out.next hjL ⟨by omega, by omega⟩)
              have kF := fun w => flat_any Z[j] w
              rw [show flatA Z[j] = ([(0, Z[j])], 0) from if_pos ⟨by omega, by omega⟩] at kF
              have hts := hid (show (Z.take (j + 1)).map (fun c => [((0 : Int), c)]) = (Z.take j).map (fun c => [((0 : Int), c)]) ++ [[(0, Z[j])]] by
                rw [List.take_add_one, List.getElem?_eq_getElem hjL, List.map_append]; rfl)
              have hM32 : M.length ≤ 32 := by omega
              replace hM := hid hM
              clear hmem
              generalize Z[j] = X at *
              go_wp2_with fail
              refine (kF _).mono ?_
              rintro e w1 ⟨ad, k, rfl, hown, hb1⟩
              replace hown := hid hown
              have hb2 := bnext hb hb1
              go_wp2_with (at_builtin; refine Hid.out ?_)
              refine hid ?_
              refine push_pr _ rfl (.tmp 44) (.tmp 46) rfl w.heap.size ad 1 k [(0, X)] rfl _ M rfl (hv.out.below hb1) rfl (hown.out.low hb.size) (new_off hv.out.own hown.out) (by omega) hb2.size ?_
              intro v3 w3 hP3 hB3
              have hb3 := hB3 w hb2
              have hcM2 := hid (show cutsOf (M ++ [⟨ad, k, [(0, X)]⟩]) = (Z.take (j + 1)).map (fun c => [((0 : Int), c)]) by
                rw [hts.out, ← hcM.out]; simp [cutsOf])
              replace hP3 := hid hP3
              go_wp2_with fail
              go_roundw
              case rel => exact ⟨j + 1, by omega, by go_num, ⟨_, by rw [List.length_append, hM.out]; rfl, hcM2, hP3⟩, hok2, hb3⟩
              case measure => simp [intOf]; omega
        · have hje : j = n := by omega
          subst hje
          have hf := hid (show newA Z = (Z.map fun c => [(0, c)], 0) from if_pos ⟨by rw [hn.out]; omega, by rw [hn.out]; omega, fun x hx => hok.out x (by rw [← hn.out, List.take_length]; exact hx)⟩)
          have hcM3 := hcM.out
          rw [← hn.out, List.take_length] at hcM3
          rw [← hcM3] at hf
          clear hcM3
          obtain ⟨ad, c, e, _⟩ := owns_form hv.out.own
          subst e
          go_wp2
          go_ret2
          rw [hf.out]
          refine ⟨ad, c, M, ?_, rfl, ?_, hb⟩
          · show _ = Ending.returned (.tuple #[.slice ad (cutsOf M).length c, .int .i64 0])
            rw [cutsOf_len]
            rfl
          · show POwn _ _ (.slice ad (cutsOf M).length c) M
            rw [cutsOf_len]; exact hv.out

end Go.Proofs.Yticlpjpbjgfgmaa
