/- The document's Right, value, least, At, Least, Flat. -/
import Derived.Test.YticlpjpbjgfgmaaSame
namespace Go.Proofs.Yticlpjpbjgfgmaa
open Go.RowKit

/-- What is told: cuts and a number. -/
def Told (R : List Cut × Int) (w : World) (e : Ending) (w' : World) : Prop := ∃ a c, e = .returned (.tuple #[.slice a R.1.length c, .int .i64 R.2]) ∧ SOwn w' w.heap.size (.slice a R.1.length c) R.1 ∧ Below w.heap.size w w'

theorem flatr_any (n : Int) (w : World) : Calls Try.prog 29 #[.int .i64 n] w fun e w' => Told (flatA n) w e w' := by
  by_cases h1 : n < 0
  · have hf := hid (show flatA n = ([], 2) from if_neg fun h => by have := h.1; omega)
    have d1 : decide (n < 0) = true := decide_eq_true h1
    go_enter Try.func29, Try.ntmps29
    go_wp2
    go_ret2
    rw [hf.out]
    exact ⟨_, _, rfl, SOwn.nil _ _, Below.refl _ _⟩
  · have d1 : decide (n < 0) = false := decide_eq_false h1
    by_cases h2 : 1073741824 < n
    · have hf := hid (show flatA n = ([], 2) from if_neg fun h => by have := h.2; omega)
      have d2 : decide (1073741824 < n) = true := decide_eq_true h2
      go_enter Try.func29, Try.ntmps29
      go_wp2
      go_ret2
      rw [hf.out]
      exact ⟨_, _, rfl, SOwn.nil _ _, Below.refl _ _⟩
    · have hf := hid (show flatA n = ([(0, n)], 0) from if_pos ⟨by omega, by omega⟩)
      have d2 : decide (1073741824 < n) = false := decide_eq_false h2
      go_enter Try.func29, Try.ntmps29
      go_wp2
      go_ret2
      rw [hf.out]
      exact ⟨_, _, rfl, SOwn.lit _ _ _, below_lit _ _⟩

set_option maxRecDepth 100000 in
theorem valuer_any (a : Option Addr) (n c : Nat) (C : List Cut) (t : Int) (w : World) (hn : C.length = n) (hl : n ≤ 4611686018427387904) (hat : SAt w a C) :
    Calls Try.prog 75 #[.slice a n c, .int .i64 t] w fun e w' => e = .returned (.int .i64 (val C t)) ∧ w' = w := by
  replace hn := hid hn
  replace hat := hid hat
  go_enter Try.func75, Try.ntmps75
  go_wp2_with fail
  go_loopw [5, 6] (fun v i wr => ∃ j : Nat, j ≤ n ∧ v = .int .i64 (val (C.take j) t) ∧ i = .int .i64 (j : Int) ∧ wr = w) (fun _ i _ => n - (intOf i).toNat)
  case atStart => exact ⟨0, Nat.zero_le _, rfl, rfl, rfl⟩
  case round =>
    obtain ⟨j, hj, rfl, rfl, rfl⟩ := hrel
    by_cases hlt : j < n
    · have hjL : j < C.length := by rw [hn.out]; exact hlt
      obtain ⟨cb, co, e⟩ := hat.out.place (by omega)
      subst e
      obtain ⟨y0, y1⟩ := hat.out.one hjL
      have hv := hid (val_take hjL t)
      by_cases hc : tm C j ≤ t
      · have d1 : decide (tm C j ≤ t) = true := decide_eq_true hc
        have hv2 := hid (hv.out.trans (if_pos hc))
        generalize tm C j = X at *
        generalize fr C j = Y at *
        go_wp2_with fail
        go_roundw
        case rel => exact ⟨j + 1, by omega, by rw [hv2.out], by go_num, trivial⟩
        case measure => simp [intOf]; omega
      · have d1 : decide (tm C j ≤ t) = false := decide_eq_false hc
        have hv2 := hid (hv.out.trans (if_neg hc))
        generalize tm C j = X at *
        generalize fr C j = Y at *
        go_wp2_with fail
        go_roundw
        case rel => exact ⟨j + 1, by omega, by rw [hv2.out], by go_num, trivial⟩
        case measure => simp [intOf]; omega
    · have hje : j = n := by omega
      subst hje
      have ht : C.take j = C := by rw [← hn.out, List.take_length]
      rw [ht]
      replace ht := hid ht
      go_wp2
      go_ret
      exact ⟨rfl, rfl⟩

set_option maxRecDepth 100000 in
set_option maxHeartbeats 400000 in
theorem leastr_any (a : Option Addr) (n c : Nat) (C : List Cut) (p q : Int) (w : World) (hn : C.length = n) (hl : n ≤ 4611686018427387904) (hat : SAt w a C) :
    Calls Try.prog 62 #[.slice a n c, .int .i64 p, .int .i64 q] w fun e w' => e = .returned (.int .i64 (rlT C p q C.length)) ∧ w' = w := by
  have kV := valuer_any a n c C p w hn hl hat
  replace hn := hid hn
  replace hat := hid hat
  go_enter Try.func62, Try.ntmps62
  go_wp2_with fail
  refine kV.mono ?_
  rintro e w1 ⟨rfl, rfl⟩
  go_wp2_with fail
  go_loopw [7, 8] (fun v i wr => ∃ j : Nat, j ≤ n ∧ v = .int .i64 (rlT C p q j) ∧ i = .int .i64 (j : Int) ∧ wr = w1) (fun _ i _ => n - (intOf i).toNat)
  case atStart => exact ⟨0, Nat.zero_le _, rfl, rfl, rfl⟩
  case round =>
    obtain ⟨j, hj, rfl, rfl, rfl⟩ := hrel
    clear kV
    by_cases hlt : j < n
    · have hjL : j < C.length := by rw [hn.out]; exact hlt
      obtain ⟨cb, co, e⟩ := hat.out.place (by omega)
      subst e
      obtain ⟨y0, y1⟩ := hat.out.one hjL
      have hv := hid (rlT_succ C p q j)
      by_cases hc1 : p < tm C j
      · have d1 : decide (p < tm C j) = true := decide_eq_true hc1
        by_cases hc2 : tm C j < q
        · have d2 : decide (tm C j < q) = true := decide_eq_true hc2
          by_cases hc3 : fr C j < rlT C p q j
          · have d3 : decide (fr C j < rlT C p q j) = true := decide_eq_true hc3
            have hv2 := hid (hv.out.trans (if_pos ⟨hc1, hc2, hc3⟩))
            clear hv
            generalize tm C j = X at *
            generalize fr C j = Y at *
            generalize rlT C p q j = Z at *
            go_wp2_with fail
            go_roundw
            case rel => exact ⟨j + 1, by omega, by rw [hv2.out], by go_num, trivial⟩
            case measure => simp [intOf]; omega
          · have d3 : decide (fr C j < rlT C p q j) = false := decide_eq_false hc3
            have hv2 := hid (hv.out.trans (if_neg fun h => hc3 h.2.2))
            clear hv
            generalize tm C j = X at *
            generalize fr C j = Y at *
            generalize rlT C p q j = Z at *
            go_wp2_with fail
            go_roundw
            case rel => exact ⟨j + 1, by omega, by rw [hv2.out], by go_num, trivial⟩
            case measure => simp [intOf]; omega
        · have d2 : decide (tm C j < q) = false := decide_eq_false hc2
          have hv2 := hid (hv.out.trans (if_neg fun h => hc2 h.2.1))
          clear hv
          generalize tm C j = X at *
          generalize fr C j = Y at *
          generalize rlT C p q j = Z at *
          go_wp2_with fail
          go_roundw
          case rel => exact ⟨j + 1, by omega, by rw [hv2.out], by go_num, trivial⟩
          case measure => simp [intOf]; omega
      · have d1 : decide (p < tm C j) = false := decide_eq_false hc1
        have hv2 := hid (hv.out.trans (if_neg fun h => hc1 h.1))
        clear hv
        generalize tm C j = X at *
        generalize fr C j = Y at *
        generalize rlT C p q j = Z at *
        go_wp2_with fail
        go_roundw
        case rel => exact ⟨j + 1, by omega, by rw [hv2.out], by go_num, trivial⟩
        case measure => simp [intOf]; omega
    · have hje : j = n := by omega
      subst hje
      have ht : rlT C p q C.length = rlT C p q j := by rw [hn.out]
      replace ht := hid ht
      generalize rlT C p q j = Z at *
      go_wp2
      go_ret
      rw [ht.out]
      exact ⟨rfl, rfl⟩

set_option maxRecDepth 100000 in
set_option maxHeartbeats 1000000 in
theorem rightr_any (a : Option Addr) (n c : Nat) (C : List Cut) (w : World) (hn : C.length = n) (hl : n ≤ 4611686018427387904) (hat : SAt w a C) :
    Calls Try.prog 43 #[.slice a n c] w fun e w' => e = .returned (.bool (rightB C)) ∧ Below w.heap.size w w' := by
  replace hn := hid hn
  replace hat := hid hat
  rcases Nat.eq_zero_or_pos n with h0 | h0
  · subst h0
    have hf := hid (show rightB C = false from rightB_false fun h => by have := h.1; rw [hn.out] at this; omega)
    go_enter Try.func43, Try.ntmps43
    go_wp2
    go_ret
    rw [hf.out]; exact ⟨rfl, Below.refl _ _⟩
  · have d0 : decide ((n : Int) < 1) = false := decide_eq_false (by omega)
    by_cases h1 : 4096 < n
    · have hf := hid (show rightB C = false from rightB_false fun h => by have := h.2.1; rw [hn.out] at this; omega)
      have d1 : decide (4096 < n) = true := by simpa using h1
      go_enter Try.func43, Try.ntmps43
      go_wp2
      go_ret
      rw [hf.out]; exact ⟨rfl, Below.refl _ _⟩
    · have d1 : decide (4096 < n) = false := by simpa using h1
      obtain ⟨b, o, e⟩ := hat.out.place (by rw [hn.out]; exact h0)
      subst e
      have x0 := (hat.out.one (show 0 < C.length by rw [hn.out]; exact h0)).1
      rw [Nat.zero_mul, Nat.add_zero] at x0
      by_cases h2 : tm C 0 = 0
      · rw [h2] at x0
        go_enter Try.func43, Try.ntmps43
        go_wp2_with fail
        go_loopw [3] (fun i wr => ∃ j : Nat, j ≤ n ∧ i = .int .i64 (j : Int) ∧ Hid (OkTo C j) ∧ Below w.heap.size w wr) (fun i _ => n - (intOf i).toNat)
        case atStart => exact ⟨0, Nat.zero_le _, rfl, hid (fun i hi => absurd hi (by omega)), Below.refl _ _⟩
        case round =>
          obtain ⟨j, hj, rfl, hok, hb⟩ := hrel
          by_cases hlt : j < n
          · have hjL : j < C.length := by rw [hn.out]; exact hlt
            obtain ⟨y0, y1⟩ := (hat.out.below hb).one hjL
            by_cases h3 : tm C j ≤ 2199023255552
            · have d3 : decide (2199023255552 < tm C j) = false := by simpa using h3
              by_cases h4 : 0 ≤ fr C j
              · have d4 : decide (fr C j < 0) = false := decide_eq_false (by omega)
                by_cases h4b : fr C j ≤ 1073741824
                · have d4b : decide (1073741824 < fr C j) = false := decide_eq_false (by omega)
                  rcases Nat.eq_zero_or_pos j with h5 | h5
                  · subst h5
                    have hok2 := hid (hok.out.next (j := 0) ⟨h3, ⟨h4, h4b⟩, fun h => absurd h (by omega)⟩)
                    rw [Nat.zero_mul, Nat.add_zero] at y0 y1
                    rw [h2] at y0
                    clear d3 h3 h4 h4b
                    replace h2 := hid h2
                    generalize fr C 0 = Y at *
                    go_wp2_with fail
                    go_quiet (fail)
                    have hb2 := below_drewN hb nq
                    generalize wr.drewN nq = wq at *
                    go_wp2_with fail
                    go_roundw
                    case rel => exact ⟨1, by omega, by go_num, hok2, hb2⟩
                    case measure => simp [intOf]; omega
                  · obtain ⟨p, rfl⟩ : ∃ p, j = p + 1 := ⟨j - 1, by omega⟩
                    obtain ⟨z0, z1⟩ := (hat.out.below hb).one (show p < C.length by omega)
                    have d5 : decide ((0 : Int) < (p : Int) + 1) = true := decide_eq_true (by omega)
                    have hpw : IntKind.i64.wrap ((p : Int) + 1 - 1) = (p : Int) := by rw [IntKind.wrap_i64]; omega
                    have hpv : IntKind.i64.wrap (p : Int) = (p : Int) := by rw [IntKind.wrap_i64]; omega
                    have hpn : p < n := by omega
                    by_cases h6 : tm C p < tm C (p + 1)
                    · have d6 : decide (tm C (p + 1) ≤ tm C p) = false := decide_eq_false (by omega)
                      by_cases h7 : fr C (p + 1) = fr C p
                      · have hf := hid (right_bad hjL fun h => (h.2.2 (by omega)).2 h7.symm)
                        rw [h7] at y1 d4 d4b
                        replace h2 := hid h2
                        replace h7 := hid h7
                        clear h3 h4 h4b h6
                        generalize tm C (p + 1) = X at *
                        generalize tm C p = X0 at *
                        generalize fr C p = Y0 at *
                        go_wp2_with fail
                        go_quiet (fail)
                        have hb2 := below_drewN hb nq
                        generalize wr.drewN nq = wq at *
                        go_wp2
                        go_ret
                        rw [hf.out]; exact ⟨rfl, hb2⟩
                      · have hok2 := hid (hok.out.next (j := p + 1) ⟨h3, ⟨h4, h4b⟩, fun _ => ⟨h6, fun e => h7 e.symm⟩⟩)
                        have d7 : (fr C (p + 1) == fr C p) = false := by simpa using h7
                        replace h2 := hid h2
                        clear h3 h4 h4b h6 h7
                        generalize tm C (p + 1) = X at *
                        generalize fr C (p + 1) = Y at *
                        generalize tm C p = X0 at *
                        generalize fr C p = Y0 at *
                        go_wp2_with fail
                        go_quiet (fail)
                        have hb2 := below_drewN hb nq
                        generalize wr.drewN nq = wq at *
                        go_wp2_with fail
                        go_roundw
                        case rel => exact ⟨p + 1 + 1, by omega, by go_num, hok2, hb2⟩
                        case measure => simp [intOf]; omega
                    · have d6 : decide (tm C (p + 1) ≤ tm C p) = true := decide_eq_true (by omega)
                      have hf := hid (right_bad hjL fun h => h6 (h.2.2 (by omega)).1)
                      replace h2 := hid h2
                      clear h3 h4 h4b h6
                      generalize tm C (p + 1) = X at *
                      generalize fr C (p + 1) = Y at *
                      generalize tm C p = X0 at *
                      generalize fr C p = Y0 at *
                      go_wp2_with fail
                      go_quiet (fail)
                      have hb2 := below_drewN hb nq
                      generalize wr.drewN nq = wq at *
                      go_wp2
                      go_ret
                      rw [hf.out]; exact ⟨rfl, hb2⟩
                · have hf := hid (right_bad hjL fun h => h4b h.2.1.2)
                  have d4b : decide (1073741824 < fr C j) = true := decide_eq_true (by omega)
                  generalize tm C j = X at *
                  generalize fr C j = Y at *
                  go_wp2
                  go_ret
                  rw [hf.out]; exact ⟨rfl, hb⟩
              · have hf := hid (right_bad hjL fun h => h4 h.2.1.1)
                have d4 : decide (fr C j < 0) = true := decide_eq_true (by omega)
                generalize tm C j = X at *
                generalize fr C j = Y at *
                go_wp2
                go_ret
                rw [hf.out]; exact ⟨rfl, hb⟩
            · have hf := hid (right_bad hjL fun h => h3 h.1)
              have d3 : decide (2199023255552 < tm C j) = true := by simp; omega
              generalize tm C j = X at *
              go_wp2
              go_ret
              rw [hf.out]; exact ⟨rfl, hb⟩
          · have hje : j = n := by omega
            subst hje
            have hf := hid (show rightB C = true from rightB_iff.2 ⟨by rw [hn.out]; exact h0, by rw [hn.out]; omega, h2, by rw [hn.out]; exact hok.out⟩)
            go_wp2
            go_ret
            rw [hf.out]; exact ⟨rfl, hb⟩
      · have hf := hid (show rightB C = false from rightB_false fun h => h2 h.2.2.1)
        have d2 : (tm C 0 != 0) = true := by simpa using h2
        generalize tm C 0 = T at *
        go_enter Try.func43, Try.ntmps43
        go_wp2
        go_ret
        rw [hf.out]; exact ⟨rfl, Below.refl _ _⟩

theorem windowr_any (a : Option Addr) (n c : Nat) (C : List Cut) (p q : Int) (w : World) (hn : C.length = n) (hl : n ≤ 4611686018427387904) (hat : SAt w a C) :
    Calls Try.prog 61 #[.slice a n c, .int .i64 p, .int .i64 q] w fun e w' => e = .returned (.bool (rightB C && winB p q)) ∧ Below w.heap.size w w' := by
  have kR := rightr_any a n c C w hn hl hat
  cases hr : rightB C
  · rw [hr] at kR
    replace hr := hid hr
    rw [Bool.false_and]
    go_enter Try.func61, Try.ntmps61
    go_wp2_with fail
    refine kR.mono ?_
    rintro e w1 ⟨rfl, b1⟩
    go_wp2
    go_ret
    exact ⟨rfl, b1⟩
  · rw [hr] at kR
    replace hr := hid hr
    rw [Bool.true_and]
    by_cases h1 : 0 ≤ p
    · have d1 : decide (0 ≤ p) = true := decide_eq_true h1
      by_cases h2 : p < q
      · have d2 : decide (p < q) = true := decide_eq_true h2
        by_cases h3 : q ≤ 2199023255552
        · have d3 : decide (q ≤ 2199023255552) = true := decide_eq_true h3
          have hf := hid (winB_iff.2 (show winP p q from ⟨h1, h2, h3⟩))
          go_enter Try.func61, Try.ntmps61
          go_wp2_with fail
          refine kR.mono ?_
          rintro e w1 ⟨rfl, b1⟩
          go_wp2
          go_ret
          rw [hf.out]; exact ⟨rfl, b1⟩
        · have d3 : decide (q ≤ 2199023255552) = false := decide_eq_false h3
          have hf := hid (winB_no (a := p) (b := q) fun h => h3 h.2.2)
          go_enter Try.func61, Try.ntmps61
          go_wp2_with fail
          refine kR.mono ?_
          rintro e w1 ⟨rfl, b1⟩
          go_wp2
          go_ret
          rw [hf.out]; exact ⟨rfl, b1⟩
      · have d2 : decide (p < q) = false := decide_eq_false h2
        have hf := hid (winB_no (a := p) (b := q) fun h => h2 h.2.1)
        go_enter Try.func61, Try.ntmps61
        go_wp2_with fail
        refine kR.mono ?_
        rintro e w1 ⟨rfl, b1⟩
        go_wp2
        go_ret
        rw [hf.out]; exact ⟨rfl, b1⟩
    · have d1 : decide (0 ≤ p) = false := decide_eq_false h1
      have hf := hid (winB_no (a := p) (b := q) fun h => h1 h.1)
      go_enter Try.func61, Try.ntmps61
      go_wp2_with fail
      refine kR.mono ?_
      rintro e w1 ⟨rfl, b1⟩
      go_wp2
      go_ret
      rw [hf.out]; exact ⟨rfl, b1⟩

theorem Leastr_any (a : Option Addr) (n c : Nat) (C : List Cut) (p q : Int) (w : World) (hn : C.length = n) (hl : n ≤ 4611686018427387904) (hat : SAt w a C) :
    Calls Try.prog 34 #[.slice a n c, .int .i64 p, .int .i64 q] w fun e w' => e = .returned (.tuple #[.int .i64 (lsA C p q).1, .int .i64 (lsA C p q).2]) ∧ Below w.heap.size w w' := by
  have kW := windowr_any a n c C p q w hn hl hat
  by_cases h : lsP C p q
  · rw [rightB_iff.2 h.1, winB_iff.2 h.2] at kW
    have hf := hid (show lsA C p q = (rlT C p q C.length, 0) by unfold lsA; rw [if_pos h, rl_ls h.1 h.2.1 h.2.2.1 h.2.2.2])
    replace h := hid h
    rw [Bool.and_self] at kW
    go_enter Try.func34, Try.ntmps34
    go_wp2_with fail
    refine kW.mono ?_
    rintro e w1 ⟨rfl, b1⟩
    have kL := leastr_any a n c C p q w1 hn hl (hat.below b1)
    go_wp2_with fail
    refine kL.mono ?_
    rintro e w2 ⟨rfl, rfl⟩
    generalize rlT C p q C.length = Z at *
    go_wp2
    go_ret2
    rw [hf.out]; exact ⟨rfl, b1⟩
  · have e : (rightB C && winB p q) = false := by
      cases h1 : rightB C
      · rfl
      · rw [Bool.true_and]
        exact winB_no fun h2 => h ⟨rightB_iff.1 h1, h2⟩
    rw [e] at kW
    have hf := hid (show lsA C p q = (0, 2) from if_neg h)
    replace h := hid h
    replace e := hid e
    go_enter Try.func34, Try.ntmps34
    go_wp2_with fail
    refine kW.mono ?_
    rintro e w1 ⟨rfl, b1⟩
    go_wp2
    go_ret2
    rw [hf.out]; exact ⟨rfl, b1⟩

end Go.Proofs.Yticlpjpbjgfgmaa
