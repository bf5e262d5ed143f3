/- What goes through the steps of a step function: each step is told to a closure. -/
import Derived.Test.YticlpjpbjgfgmaaRight
namespace Go.Proofs.Yticlpjpbjgfgmaa
open Go.RowKit

def ptr (g : Nat) : Value := .pointer (some ⟨g, 0, none⟩)

theorem en_in {C : List Cut} {k : Nat} (h : k + 1 < C.length) : en C k = tm C (k + 1) := by unfold en; rw [if_pos h]
theorem en_out {C : List Cut} {k : Nat} (h : ¬ k + 1 < C.length) : en C k = 9223372036854775807 := by unfold en; rw [if_neg h]

set_option maxRecDepth 100000 in
set_option maxHeartbeats 1000000 in
theorem each27 (a : Option Addr) (n c : Nat) (C : List Cut) (g0 g1 g2 : Nat) (R : Nat → World → Prop) (w : World) (hn : C.length = n) (hl : n ≤ 4096) (hR0 : R 0 w) (hat : ∀ k w', R k w' → SAt w' a C) (hdr : ∀ k w', R k w' → R k w'.drew)
    (hstep : ∀ k w', k < n → R k w' → Calls Try.prog 60 #[.int .i64 (tm C k), .int .i64 (en C k), .int .i64 (fr C k), ptr g0, ptr g1, ptr g2] w' fun e w2 => e = .returned (.tuple #[]) ∧ R (k + 1) w2) :
    Calls Try.prog 59 #[.slice a n c, .func (.func 60) #[] #[ptr g0, ptr g1, ptr g2]] w fun e w' => e = .returned (.tuple #[]) ∧ R n w' := by
  replace hn := hid hn
  replace hat := hid hat
  replace hdr := hid hdr
  replace hstep := hid hstep
  go_enter Try.func59, Try.ntmps59
  go_wp2_with fail
  go_loopw [8] (fun i wr => ∃ j : Nat, j ≤ n ∧ i = .int .i64 (j : Int) ∧ Hid (R j wr)) (fun i _ => n - (intOf i).toNat)
  case atStart => exact ⟨0, Nat.zero_le _, rfl, hid hR0⟩
  case round =>
    obtain ⟨j, hj, rfl, hR⟩ := hrel
    by_cases hlt : j < n
    · have hjL : j < C.length := by rw [hn.out]; exact hlt
      have hs := hat.out j _ hR.out
      obtain ⟨b, o, e⟩ := hs.place (by omega)
      subst e
      obtain ⟨y0, y1⟩ := hs.one hjL
      have hcells : ∀ w', R (j + 1) w' → w'.cell? ⟨b, o + j * 2, none⟩ = some (.int .i64 (tm C j)) ∧ w'.cell? ⟨b, o + j * 2 + 1, none⟩ = some (.int .i64 (fr C j)) := fun w' h => (hat.out (j + 1) w' h).one hjL
      have hRd := hid (hdr.out j _ hR.out)
      have kS := fun w' h => hstep.out j w' hlt h
      by_cases hnx : j + 1 < n
      · have hjM : j + 1 < C.length := by rw [hn.out]; exact hnx
        obtain ⟨z0, _⟩ := hs.one hjM
        rw [en_in hjM] at kS
        have hjw : IntKind.i64.wrap ((j : Int) + 1) = (j : Int) + 1 := by rw [IntKind.wrap_i64]; omega
        have dx : decide ((j : Int) + 1 < (n : Int)) = true := decide_eq_true (by omega)
        generalize tm C (j + 1) = E at *
        generalize tm C j = X at *
        generalize fr C j = Y at *
        go_wp2_with fail
        go_region_held (fun w' : World => w'.cell? ⟨b, o + j * 2, none⟩ = some (.int .i64 X) ∧ w'.cell? ⟨b, o + j * 2 + 1, none⟩ = some (.int .i64 Y))
          (first | exact hS1.out | exact ⟨y0, y1⟩)
          (first | (go_at_call 60; refine (kS _ hRd.out).mono ?_; rintro e w4 ⟨rfl, hR4⟩; have hR5 := hid hR4; clear hR4; have hS1 := hid (hcells w4 hR5.out)))
        all_goals
          go_wp2_with fail
          go_roundw
          case rel => exact ⟨j + 1, by omega, by go_num, hR5⟩
          case measure => simp [intOf]; omega
      · have hjM : ¬ j + 1 < C.length := by rw [hn.out]; exact hnx
        rw [en_out hjM] at kS
        have hjw : IntKind.i64.wrap ((j : Int) + 1) = (j : Int) + 1 := by rw [IntKind.wrap_i64]; omega
        have dx : decide ((j : Int) + 1 < (n : Int)) = false := decide_eq_false (by omega)
        generalize tm C j = X at *
        generalize fr C j = Y at *
        go_wp2_with fail
        go_region_held (fun w' : World => w'.cell? ⟨b, o + j * 2, none⟩ = some (.int .i64 X) ∧ w'.cell? ⟨b, o + j * 2 + 1, none⟩ = some (.int .i64 Y))
          (first | exact hS1.out | exact ⟨y0, y1⟩)
          (first | (go_at_call 60; refine (kS _ hRd.out).mono ?_; rintro e w4 ⟨rfl, hR4⟩; have hR5 := hid hR4; clear hR4; have hS1 := hid (hcells w4 hR5.out)))
        all_goals
          go_wp2_with fail
          go_roundw
          case rel => exact ⟨j + 1, by omega, by go_num, hR5⟩
          case measure => simp [intOf]; omega
    · have hje : j = n := by omega
      subst hje
      go_wp2
      go_end0
      exact ⟨rfl, hR.out⟩

set_option maxRecDepth 100000 in
set_option maxHeartbeats 1000000 in
theorem each31 (a : Option Addr) (n c : Nat) (C : List Cut) (g0 g1 g2 g3 : Nat) (R : Nat → World → Prop) (w : World) (hn : C.length = n) (hl : n ≤ 4096) (hR0 : R 0 w) (hat : ∀ k w', R k w' → SAt w' a C) (hdr : ∀ k w', R k w' → R k w'.drew)
    (hstep : ∀ k w', k < n → R k w' → Calls Try.prog 78 #[.int .i64 (tm C k), .int .i64 (en C k), .int .i64 (fr C k), ptr g0, ptr g1, ptr g2, ptr g3] w' fun e w2 => e = .returned (.tuple #[]) ∧ R (k + 1) w2) :
    Calls Try.prog 59 #[.slice a n c, .func (.func 78) #[] #[ptr g0, ptr g1, ptr g2, ptr g3]] w fun e w' => e = .returned (.tuple #[]) ∧ R n w' := by
  replace hn := hid hn
  replace hat := hid hat
  replace hdr := hid hdr
  replace hstep := hid hstep
  go_enter Try.func59, Try.ntmps59
  go_wp2_with fail
  go_loopw [8] (fun i wr => ∃ j : Nat, j ≤ n ∧ i = .int .i64 (j : Int) ∧ Hid (R j wr)) (fun i _ => n - (intOf i).toNat)
  case atStart => exact ⟨0, Nat.zero_le _, rfl, hid hR0⟩
  case round =>
    obtain ⟨j, hj, rfl, hR⟩ := hrel
    by_cases hlt : j < n
    · have hjL : j < C.length := by rw [hn.out]; exact hlt
      have hs := hat.out j _ hR.out
      obtain ⟨b, o, e⟩ := hs.place (by omega)
      subst e
      obtain ⟨y0, y1⟩ := hs.one hjL
      have hcells : ∀ w', R (j + 1) w' → w'.cell? ⟨b, o + j * 2, none⟩ = some (.int .i64 (tm C j)) ∧ w'.cell? ⟨b, o + j * 2 + 1, none⟩ = some (.int .i64 (fr C j)) := fun w' h => (hat.out (j + 1) w' h).one hjL
      have hRd := hid (hdr.out j _ hR.out)
      have kS := fun w' h => hstep.out j w' hlt h
      by_cases hnx : j + 1 < n
      · have hjM : j + 1 < C.length := by rw [hn.out]; exact hnx
        obtain ⟨z0, _⟩ := hs.one hjM
        rw [en_in hjM] at kS
        have hjw : IntKind.i64.wrap ((j : Int) + 1) = (j : Int) + 1 := by rw [IntKind.wrap_i64]; omega
        have dx : decide ((j : Int) + 1 < (n : Int)) = true := decide_eq_true (by omega)
        generalize tm C (j + 1) = E at *
        generalize tm C j = X at *
        generalize fr C j = Y at *
        go_wp2_with fail
        go_region_held (fun w' : World => w'.cell? ⟨b, o + j * 2, none⟩ = some (.int .i64 X) ∧ w'.cell? ⟨b, o + j * 2 + 1, none⟩ = some (.int .i64 Y))
          (first | exact hS1.out | exact ⟨y0, y1⟩)
          (first | (go_at_call 78; refine (kS _ hRd.out).mono ?_; rintro e w4 ⟨rfl, hR4⟩; have hR5 := hid hR4; clear hR4; have hS1 := hid (hcells w4 hR5.out)))
        all_goals
          go_wp2_with fail
          go_roundw
          case rel => exact ⟨j + 1, by omega, by go_num, hR5⟩
          case measure => simp [intOf]; omega
      · have hjM : ¬ j + 1 < C.length := by rw [hn.out]; exact hnx
        rw [en_out hjM] at kS
        have hjw : IntKind.i64.wrap ((j : Int) + 1) = (j : Int) + 1 := by rw [IntKind.wrap_i64]; omega
        have dx : decide ((j : Int) + 1 < (n : Int)) = false := decide_eq_false (by omega)
        generalize tm C j = X at *
        generalize fr C j = Y at *
        go_wp2_with fail
        go_region_held (fun w' : World => w'.cell? ⟨b, o + j * 2, none⟩ = some (.int .i64 X) ∧ w'.cell? ⟨b, o + j * 2 + 1, none⟩ = some (.int .i64 Y))
          (first | exact hS1.out | exact ⟨y0, y1⟩)
          (first | (go_at_call 78; refine (kS _ hRd.out).mono ?_; rintro e w4 ⟨rfl, hR4⟩; have hR5 := hid hR4; clear hR4; have hS1 := hid (hcells w4 hR5.out)))
        all_goals
          go_wp2_with fail
          go_roundw
          case rel => exact ⟨j + 1, by omega, by go_num, hR5⟩
          case measure => simp [intOf]; omega
    · have hje : j = n := by omega
      subst hje
      go_wp2
      go_end0
      exact ⟨rfl, hR.out⟩

end Go.Proofs.Yticlpjpbjgfgmaa
