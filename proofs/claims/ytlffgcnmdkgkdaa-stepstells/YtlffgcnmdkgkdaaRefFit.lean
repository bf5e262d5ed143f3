/- The document's Fit; the law StepsFits answers true, whatever it is handed. -/
import Derived.Test.YtlffgcnmdkgkdaaRef
import Derived.Test.YtlffgcnmdkgkdaaAddWalk
namespace Go.Proofs.Ytlffgcnmdkgkdaa
open Go.RowKit

theorem rl_all {C : List Cut} (hr : RightP C) {x p m : Int} (h0 : 0 ≤ x) (hp : 1 ≤ p) : m ≤ rlT C x (x + p) C.length ↔ ∀ s, x ≤ s → s < x + p → m ≤ val C s := by
  obtain ⟨h1, t, t1, t2, t3⟩ := rl_least hr h0 (show x < x + p by omega)
  constructor
  · intro h s s1 s2
    have := h1 s s1 s2
    omega
  · intro h
    have := h t t1 t2
    omega

theorem fit_from {C : List Cut} {a p m : Int} (h : ftP C a p m) (hm : m ≤ rlT C a (a + p) C.length) : fitP C a p m = a := by
  have I := ft_inv h.1 h.2.1.1 h.2.2.1.1 (n := m) C.length (Nat.le_refl _)
  have h1 : a ≤ fitP C a p m := I.from_
  rcases Int.lt_or_le a (fitP C a p m) with h2 | h2
  · obtain ⟨s, s1, s2, s3⟩ := I.miss a (Int.le_refl _) h2
    have := (rl_all h.1 h.2.1.1 h.2.2.1.1).1 hm s s1 s2
    omega
  · omega

/-- The cut i would be told. -/
def Cd (C : List Cut) (a p m : Int) (i : Nat) : Prop := a < tm C i ∧ tm C i ≤ 1099511627776 ∧ m ≤ rlT C (tm C i) (tm C i + p) C.length

theorem fit_at {C : List Cut} {a p m : Int} (h : ftP C a p m) (hm : rlT C a (a + p) C.length < m) (ht : fitP C a p m ≤ 1099511627776) : ∃ j, j < C.length ∧ fitP C a p m = tm C j ∧ Cd C a p m j := by
  have F := fit_ok h.1 h.2.1.1 h.2.2.1.1 h.2.2.1.2 ht
  have hne : fitP C a p m ≠ a := by
    intro e
    rw [e] at F
    have := (rl_all h.1 h.2.1.1 h.2.2.1.1 (m := m)).2 F.2.1
    omega
  rcases F.2.2.2 with e | ⟨j, h1, e⟩
  · exact absurd e hne
  · have h2 := F.1
    have h0 := h.2.1.1
    refine ⟨j, h1, e, by omega, by omega, ?_⟩
    have h3 := F.2.1
    rw [e] at h3
    exact (rl_all h.1 (by omega) h.2.2.1.1).2 h3

theorem fit_cut {C : List Cut} {a p m : Int} (h : ftP C a p m) (hm : rlT C a (a + p) C.length < m) {i : Nat} (_hi : i < C.length) (hno : ∀ j, j < i → ¬ Cd C a p m j) (hc : Cd C a p m i) : fitP C a p m = tm C i := by
  have I := ft_inv h.1 h.2.1.1 h.2.2.1.1 (n := m) C.length (Nat.le_refl _)
  have h0 := h.2.1.1
  have hle : fitP C a p m ≤ tm C i := by
    rcases Int.lt_or_le (tm C i) (fitP C a p m) with h2 | h2
    · obtain ⟨s, s1, s2, s3⟩ := I.miss (tm C i) (by have := hc.1; omega) h2
      have := (rl_all h.1 (by have := hc.1; omega) h.2.2.1.1).1 hc.2.2 s s1 s2
      omega
    · exact h2
  obtain ⟨j, h1, e, h2⟩ := fit_at h hm (by have := hc.2.1; omega)
  rcases Nat.lt_trichotomy j i with h3 | h3 | h3
  · exact absurd h2 (hno j h3)
  · rw [e, h3]
  · have := h.1.rise.lt h3 h1; omega

theorem fit_none {C : List Cut} {a p m : Int} (h : ftP C a p m) (hm : rlT C a (a + p) C.length < m) (hno : ∀ j, j < C.length → ¬ Cd C a p m j) : 1099511627776 < fitP C a p m := by
  rcases Int.lt_or_le 1099511627776 (fitP C a p m) with h1 | h1
  · exact h1
  · obtain ⟨j, h2, _, h3⟩ := fit_at h hm h1
    exact absurd h3 (hno j h2)

def NoTo (C : List Cut) (a p m : Int) (j : Nat) : Prop := ∀ i, i < j → ¬ Cd C a p m i
theorem NoTo.next {C : List Cut} {a p m : Int} {j : Nat} (h : NoTo C a p m j) (k : ¬ Cd C a p m j) : NoTo C a p m (j + 1) := by
  intro i hi
  rcases Nat.lt_or_ge i j with h1 | h1
  · exact h i h1
  · have : i = j := by omega
    subst this; exact k

set_option maxRecDepth 100000 in
set_option maxHeartbeats 1000000 in
theorem fitr_any (a : Option Addr) (n c : Nat) (C : List Cut) (p len m : Int) (w : World) (hn : C.length = n) (hl : n ≤ 4611686018427387904) (hat : SAt w a C) :
    Calls Try.prog 21 #[.slice a n c, .int .i64 p, .int .i64 len, .int .i64 m] w fun e w' => e = .returned (.tuple #[.int .i64 (ftA C p len m).1, .int .i64 (ftA C p len m).2]) ∧ Below w.heap.size w w' := by
  have kR := rightr_any a n c C w hn hl hat
  replace hn := hid hn
  replace hat := hid hat
  by_cases hr : RightP C
  · rw [rightB_iff.2 hr] at kR
    go_enter Try.func21, Try.ntmps21
    go_wp2_with fail
    refine kR.mono ?_
    rintro e w1 ⟨rfl, B1⟩
    by_cases k1 : p < 0
    · have hf := hid (show ftA C p len m = (0, 2) from if_neg fun h => by have := h.2.1; omega)
      have d1 : decide (p < 0) = true := decide_eq_true k1
      go_wp2
      go_ret2
      rw [hf.out]; exact ⟨rfl, B1⟩
    · have d1 : decide (p < 0) = false := decide_eq_false k1
      by_cases k2 : 1099511627776 < p
      · have hf := hid (show ftA C p len m = (0, 2) from if_neg fun h => by have := h.2.1; omega)
        have d2 : decide (1099511627776 < p) = true := decide_eq_true k2
        go_wp2
        go_ret2
        rw [hf.out]; exact ⟨rfl, B1⟩
      · have d2 : decide (1099511627776 < p) = false := decide_eq_false k2
        by_cases k3 : len < 1
        · have hf := hid (show ftA C p len m = (0, 2) from if_neg fun h => by have := h.2.2.1; omega)
          have d3 : decide (len < 1) = true := decide_eq_true k3
          go_wp2
          go_ret2
          rw [hf.out]; exact ⟨rfl, B1⟩
        · have d3 : decide (len < 1) = false := decide_eq_false k3
          by_cases k4 : 1099511627776 < len
          · have hf := hid (show ftA C p len m = (0, 2) from if_neg fun h => by have := h.2.2.1; omega)
            have d4 : decide (1099511627776 < len) = true := decide_eq_true k4
            go_wp2
            go_ret2
            rw [hf.out]; exact ⟨rfl, B1⟩
          · have d4 : decide (1099511627776 < len) = false := decide_eq_false k4
            by_cases k5 : m < 0
            · have hf := hid (show ftA C p len m = (0, 2) from if_neg fun h => by have := h.2.2.2.1; omega)
              have d5 : decide (m < 0) = true := decide_eq_true k5
              go_wp2
              go_ret2
              rw [hf.out]; exact ⟨rfl, B1⟩
            · have d5 : decide (m < 0) = false := decide_eq_false k5
              by_cases k6 : 1073741824 < m
              · have hf := hid (show ftA C p len m = (0, 2) from if_neg fun h => by have := h.2.2.2.2; omega)
                have d6 : decide (1073741824 < m) = true := decide_eq_true k6
                go_wp2
                go_ret2
                rw [hf.out]; exact ⟨rfl, B1⟩
              · have d6 : decide (1073741824 < m) = false := decide_eq_false k6
                have hg : ftP C p len m := ⟨hr, ⟨by omega, by omega⟩, ⟨by omega, by omega⟩, ⟨by omega, by omega⟩⟩
                have hz := hid hg
                have S1 := hid (hat.out.below B1)
                have kL := leastr_any a n c C p (p + len) w1 hn.out hl S1.out
                have hw1 : IntKind.i64.wrap (p + len) = p + len := by rw [IntKind.wrap_i64]; omega
                by_cases k7 : m ≤ rlT C p (p + len) C.length
                · have hf := hid (show ftA C p len m = (p, 0) by
                    have e := fit_from hg k7
                    unfold ftA
                    rw [if_pos hg, e, if_neg (by omega)])
                  have d7 : decide (m ≤ rlT C p (p + len) C.length) = true := decide_eq_true k7
                  clear hg k7
                  replace hr := hid hr
                  generalize rlT C p (p + len) C.length = L at *
                  go_wp2_with fail
                  refine kL.mono ?_
                  rintro e w2 ⟨rfl, rfl⟩
                  go_wp2
                  go_ret2
                  rw [hf.out]; exact ⟨rfl, B1⟩
                · have d7 : decide (m ≤ rlT C p (p + len) C.length) = false := decide_eq_false k7
                  have hlow := hid (show rlT C p (p + len) C.length < m by omega)
                  clear hg k7
                  replace hr := hid hr
                  generalize hL : rlT C p (p + len) C.length = L at *
                  replace hL := hid hL
                  go_wp2_with fail
                  refine kL.mono ?_
                  rintro e w2 ⟨rfl, rfl⟩
                  clear kL kR
                  go_wp2_with fail
                  go_loopw [10] (fun i wr => ∃ j : Nat, j ≤ n ∧ i = .int .i64 (j : Int) ∧ Hid (NoTo C p len m j) ∧ wr = w2) (fun i _ => n - (intOf i).toNat)
                  case atStart => exact ⟨0, Nat.zero_le _, rfl, hid (fun i hi => absurd hi (by omega)), rfl⟩
                  case round =>
                    obtain ⟨j, hj, rfl, hno, rfl⟩ := hrel
                    by_cases hlt : j < n
                    · have hjL : j < C.length := by rw [hn.out]; exact hlt
                      obtain ⟨cb, co, e⟩ := S1.out.place (by omega)
                      subst e
                      have y0 := (S1.out.one hjL).1
                      by_cases c1 : p < tm C j
                      · have e1 : decide (p < tm C j) = true := decide_eq_true c1
                        by_cases c2 : tm C j ≤ 1099511627776
                        · have e2 : decide (tm C j ≤ 1099511627776) = true := decide_eq_true c2
                          have kM := leastr_any (some ⟨cb, co, none⟩) n c C (tm C j) (tm C j + len) wr hn.out hl S1.out
                          have hw2 : IntKind.i64.wrap (tm C j + len) = tm C j + len := by rw [IntKind.wrap_i64]; omega
                          by_cases c3 : m ≤ rlT C (tm C j) (tm C j + len) C.length
                          · have e3 : decide (m ≤ rlT C (tm C j) (tm C j + len) C.length) = true := decide_eq_true c3
                            have hf := hid (show ftA C p len m = (tm C j, 0) by
                              have e := fit_cut hz.out (by rw [hL.out]; exact hlow.out) hjL hno.out ⟨c1, c2, c3⟩
                              unfold ftA
                              rw [if_pos hz.out, e, if_neg (by omega)])
                            clear c1 c2 c3
                            generalize rlT C (tm C j) (tm C j + len) C.length = M at *
                            generalize tm C j = X at *
                            go_wp2_with fail
                            refine kM.mono ?_
                            rintro e w3 ⟨rfl, rfl⟩
                            go_wp2
                            go_ret2
                            rw [hf.out]; exact ⟨rfl, B1⟩
                          · have e3 : decide (m ≤ rlT C (tm C j) (tm C j + len) C.length) = false := decide_eq_false c3
                            have hno2 := hid (hno.out.next fun h => c3 h.2.2)
                            clear c1 c2 c3
                            generalize rlT C (tm C j) (tm C j + len) C.length = M at *
                            generalize tm C j = X at *
                            go_wp2_with fail
                            refine kM.mono ?_
                            rintro e w3 ⟨rfl, rfl⟩
                            clear kM
                            go_wp2_with fail
                            go_roundw
                            case rel => exact ⟨j + 1, by omega, by go_num, hno2, trivial⟩
                            case measure => simp [intOf]; omega
                        · have e2 : decide (tm C j ≤ 1099511627776) = false := decide_eq_false c2
                          have hno2 := hid (hno.out.next fun h => c2 h.2.1)
                          clear c1 c2
                          generalize tm C j = X at *
                          go_wp2_with fail
                          go_roundw
                          case rel => exact ⟨j + 1, by omega, by go_num, hno2, trivial⟩
                          case measure => simp [intOf]; omega
                      · have e1 : decide (p < tm C j) = false := decide_eq_false c1
                        have hno2 := hid (hno.out.next fun h => c1 h.1)
                        clear c1
                        generalize tm C j = X at *
                        go_wp2_with fail
                        go_roundw
                        case rel => exact ⟨j + 1, by omega, by go_num, hno2, trivial⟩
                        case measure => simp [intOf]; omega
                    · have hje : j = n := by omega
                      subst hje
                      have hf := hid (show ftA C p len m = (0, 120) by
                        have e := fit_none hz.out (by rw [hL.out]; exact hlow.out) (by rw [hn.out]; exact hno.out)
                        unfold ftA
                        rw [if_pos hz.out, if_pos e])
                      go_wp2
                      go_ret2
                      rw [hf.out]; exact ⟨rfl, B1⟩
  · have hf := hid (show ftA C p len m = (0, 2) from if_neg fun h => hr h.1)
    rw [rightB_false hr] at kR
    go_enter Try.func21, Try.ntmps21
    go_wp2_with fail
    refine kR.mono ?_
    rintro e w1 ⟨rfl, B1⟩
    go_wp2
    go_ret2
    rw [hf.out]
    exact ⟨rfl, B1⟩

end Go.Proofs.Ytlffgcnmdkgkdaa
