/- Whether cuts are a right step function. -/
import Derived.Test.YticlpjpbjgfgmaaMem
namespace Go.Proofs.Yticlpjpbjgfgmaa
open Go.RowKit

abbrev OkAt (C : List Cut) (i : Nat) : Prop := tm C i ≤ 2199023255552 ∧ (0 ≤ fr C i ∧ fr C i ≤ 1073741824) ∧ (0 < i → tm C (i - 1) < tm C i ∧ fr C (i - 1) ≠ fr C i)

def OkTo (C : List Cut) (j : Nat) : Prop := ∀ i, i < j → OkAt C i

theorem OkTo.next {C : List Cut} {j : Nat} (h : OkTo C j) (k : OkAt C j) : OkTo C (j + 1) := by
  intro i hi
  rcases Nat.lt_or_ge i j with h1 | h1
  · exact h i h1
  · have : i = j := by omega
    subst this; exact k

theorem right_bad {C : List Cut} {j : Nat} (hj : j < C.length) (h : ¬ OkAt C j) : rightB C = false := rightB_false fun k => h (k.2.2.2 j hj)

theorem below_drewN {w w' : World} {base : Nat} (h : Below base w w') (n : Nat) : Below base w (w'.drewN n) := h.trans ⟨rfl, rfl, rfl, Nat.le_refl _, fun _ _ => rfl⟩

theorem isVB_true {n : Int} (h1 : 0 ≤ n) (h2 : n ≤ 1073741824) : isVB n = true := decide_eq_true ⟨h1, h2⟩
theorem isVB_iff {n : Int} : isVB n = true ↔ isV n := by simp [isVB]
theorem isVB_no {n : Int} (h : ¬ isV n) : isVB n = false := decide_eq_false h

theorem stay {w w' : World} {p : Addr} {v : Value} (hb : Below w.heap.size w w') (h : w.cell? p = some v) : w'.cell? p = some v := by
  rw [hb.cell (World.block_lt_of_cell? w p h)]; exact h

theorem drew_below (w : World) : Below w.heap.size w w.drew := (Below.refl _ _).drew

set_option maxRecDepth 100000 in
set_option maxHeartbeats 1000000 in
theorem right_any (a : Option Addr) (n c : Nat) (C : List Cut) (w : World) (hn : C.length = n) (hl : n ≤ 4611686018427387904) (hat : SAt w a C) :
    Calls Try.prog 42 #[.slice a n c] w fun e w' => e = .returned (.bool (rightB C)) ∧ Below w.heap.size w w' := by
  replace hn := hid hn
  replace hat := hid hat
  rcases Nat.eq_zero_or_pos n with h0 | h0
  · subst h0
    have hf := hid (show rightB C = false from rightB_false fun h => by have := h.1; rw [hn.out] at this; omega)
    go_enter Try.func42, Try.ntmps42
    go_wp2
    go_ret
    rw [hf.out]; exact ⟨rfl, Below.refl _ _⟩
  · have d0 : ((n : Int) == 0) = false := by simp; omega
    by_cases h1 : 4096 < n
    · have hf := hid (show rightB C = false from rightB_false fun h => by have := h.2.1; rw [hn.out] at this; omega)
      have d1 : decide (4096 < n) = true := by simpa using h1
      go_enter Try.func42, Try.ntmps42
      go_wp2
      go_ret
      rw [hf.out]; exact ⟨rfl, Below.refl _ _⟩
    · have d1 : decide (4096 < n) = false := by simpa using h1
      obtain ⟨b, o, e⟩ := hat.out.place (by rw [hn.out]; exact h0)
      subst e
      have x0 := (hat.out.one (show 0 < C.length by rw [hn.out]; exact h0)).1
      rw [Nat.zero_mul, Nat.add_zero] at x0
      by_cases h2 : tm C 0 = 0
      · rw [h2] at x0
        go_enter Try.func42, Try.ntmps42
        go_wp2_with fail
        go_loopw [21] (fun i wr => ∃ j : Nat, j ≤ n ∧ i = .int .i64 (j : Int) ∧ Hid (OkTo C j) ∧ Below w.heap.size w wr) (fun i _ => n - (intOf i).toNat)
        case atStart => exact ⟨0, Nat.zero_le _, rfl, hid (fun i hi => absurd hi (by omega)), Below.refl _ _⟩
        case round =>
          obtain ⟨j, hj, rfl, hok, hb⟩ := hrel
          by_cases hlt : j < n
          · have hjL : j < C.length := by rw [hn.out]; exact hlt
            obtain ⟨y0, y1⟩ := (hat.out.below hb).one hjL
            by_cases h3 : tm C j ≤ 2199023255552
            · have d3 : decide (2199023255552 < tm C j) = false := by simpa using h3
              have kV := fun w => isvalue_any (fr C j) w
              by_cases h4 : isV (fr C j)
              · rw [isVB_iff.2 h4] at kV
                rcases Nat.eq_zero_or_pos j with h5 | h5
                · subst h5
                  have hok2 := hid (hok.out.next (j := 0) ⟨h3, h4, fun h => absurd h (by omega)⟩)
                  rw [Nat.zero_mul, Nat.add_zero] at y0 y1
                  rw [h2] at y0
                  clear d3 h3 h4
                  replace h2 := hid h2
                  generalize fr C 0 = Y at *
                  go_wp2_with fail
                  refine (kV _).mono ?_
                  rintro e w1 ⟨rfl, rfl⟩
                  go_wp2_with fail
                  go_quiet (fail)
                  have hb2 := below_drewN hb nq
                  generalize w1.drewN nq = wq at *
                  go_wp2_with fail
                  go_roundw
                  case rel => exact ⟨1, by omega, by go_num, hok2, hb2⟩
                  case measure => simp [intOf]; omega
                · obtain ⟨p, rfl⟩ : ∃ p, j = p + 1 := ⟨j - 1, by omega⟩
                  obtain ⟨z0, z1⟩ := (hat.out.below hb).one (show p < C.length by omega)
                  have kF := fun w => follows_any (tm C p) (fr C p) (tm C (p + 1)) (fr C (p + 1)) w
                  by_cases h6 : tm C p < tm C (p + 1) ∧ fr C p ≠ fr C (p + 1)
                  · have hok2 := hid (hok.out.next (j := p + 1) ⟨h3, h4, fun _ => h6⟩)
                    rw [show folB (tm C p) (fr C p) (tm C (p + 1)) (fr C (p + 1)) = true from decide_eq_true h6] at kF
                    have d5 : decide ((0 : Int) < (p : Int) + 1) = true := decide_eq_true (by omega)
                    clear h3 h4 h6
                    replace h2 := hid h2
                    have hpw : IntKind.i64.wrap ((p : Int) + 1 - 1) = (p : Int) := by rw [IntKind.wrap_i64]; omega
                    have hpv : IntKind.i64.wrap (p : Int) = (p : Int) := by rw [IntKind.wrap_i64]; omega
                    have hpn : p < n := by omega
                    generalize tm C (p + 1) = X at *
                    generalize fr C (p + 1) = Y at *
                    generalize tm C p = X0 at *
                    generalize fr C p = Y0 at *
                    go_wp2_with fail
                    refine (kV _).mono ?_
                    rintro e w1 ⟨rfl, rfl⟩
                    go_wp2_with fail
                    go_region_held (fun w' : World => w'.cell? ⟨b, o + p * 2, none⟩ = some (.int .i64 X0) ∧ w'.cell? ⟨b, o + p * 2 + 1, none⟩ = some (.int .i64 Y0) ∧ w'.cell? ⟨b, o + (p + 1) * 2, none⟩ = some (.int .i64 X) ∧ w'.cell? ⟨b, o + (p + 1) * 2 + 1, none⟩ = some (.int .i64 Y))
                      (first | exact ⟨stay hb4 z0, stay hb4 z1, stay hb4 y0, stay hb4 y1⟩ | exact ⟨z0, z1, y0, y1⟩)
                      (first | (go_at_call 68; refine (kF _).mono ?_; rintro e w4 ⟨rfl, hb4⟩))
                    all_goals
                      have hb5 := bnext hb (bnext (drew_below w1) hb4)
                      go_wp2_with fail
                      go_roundw
                      case rel => exact ⟨p + 1 + 1, by omega, by go_num, hok2, hb5⟩
                      case measure => simp [intOf]; omega
                  · have hf := hid (right_bad hjL fun h => h6 (h.2.2 (by omega)))
                    rw [show folB (tm C p) (fr C p) (tm C (p + 1)) (fr C (p + 1)) = false from decide_eq_false h6] at kF
                    have d5 : decide ((0 : Int) < (p : Int) + 1) = true := decide_eq_true (by omega)
                    clear h3 h4 h6
                    replace h2 := hid h2
                    have hpw : IntKind.i64.wrap ((p : Int) + 1 - 1) = (p : Int) := by rw [IntKind.wrap_i64]; omega
                    have hpv : IntKind.i64.wrap (p : Int) = (p : Int) := by rw [IntKind.wrap_i64]; omega
                    have hpn : p < n := by omega
                    generalize tm C (p + 1) = X at *
                    generalize fr C (p + 1) = Y at *
                    generalize tm C p = X0 at *
                    generalize fr C p = Y0 at *
                    go_wp2_with fail
                    refine (kV _).mono ?_
                    rintro e w1 ⟨rfl, rfl⟩
                    go_wp2_with fail
                    go_region_held (fun w' : World => w'.cell? ⟨b, o + p * 2, none⟩ = some (.int .i64 X0) ∧ w'.cell? ⟨b, o + p * 2 + 1, none⟩ = some (.int .i64 Y0) ∧ w'.cell? ⟨b, o + (p + 1) * 2, none⟩ = some (.int .i64 X) ∧ w'.cell? ⟨b, o + (p + 1) * 2 + 1, none⟩ = some (.int .i64 Y))
                      (first | exact ⟨stay hb4 z0, stay hb4 z1, stay hb4 y0, stay hb4 y1⟩ | exact ⟨z0, z1, y0, y1⟩)
                      (first | (go_at_call 68; refine (kF _).mono ?_; rintro e w4 ⟨rfl, hb4⟩))
                    all_goals
                      have hb5 := bnext hb (bnext (drew_below w1) hb4)
                      go_wp2
                      go_ret
                      rw [hf.out]; exact ⟨rfl, hb5⟩
              · have hf := hid (right_bad hjL fun h => h4 h.2.1)
                rw [isVB_no h4] at kV
                replace h4 := hid h4
                generalize tm C j = X at *
                generalize fr C j = Y at *
                go_wp2_with fail
                refine (kV _).mono ?_
                rintro e w1 ⟨rfl, rfl⟩
                go_wp2
                go_ret
                rw [hf.out]; exact ⟨rfl, hb⟩
            · have hf := hid (right_bad hjL fun h => h3 h.1)
              have d3 : decide (2199023255552 < tm C j) = true := by simp; omega
              generalize tm C j = X at *
              go_wp2
              go_ret
              rw [hf.out]; exact ⟨rfl, hb⟩
          · have hje : j = n := by omega
            subst hje
            have hf := hid (show rightB C = true from rightB_iff.2 ⟨by rw [hn.out]; exact h0, by rw [hn.out]; omega, h2, by rw [hn.out]; exact hok.out⟩)
            go_wp2
            go_ret
            rw [hf.out]; exact ⟨rfl, hb⟩
      · have hf := hid (show rightB C = false from rightB_false fun h => h2 h.2.2.1)
        have d2 : (tm C 0 != 0) = true := by simpa using h2
        generalize tm C 0 = T at *
        go_enter Try.func42, Try.ntmps42
        go_wp2
        go_ret
        rw [hf.out]; exact ⟨rfl, Below.refl _ _⟩

end Go.Proofs.Yticlpjpbjgfgmaa
