/- The document's Listed; a copy of numbers. -/
import Derived.Test.YtomdghodbkhkaaaGreatDoorLst
namespace Go.Proofs.YtomdghodbkhkaaaGreatDoor
open Go.RowKit
set_option linter.unusedVariables false
set_option linter.unusedSimpArgs false

set_option maxRecDepth 100000 in
set_option maxHeartbeats 1000000 in
theorem copyints (a : Option Addr) (k c : Nat) (L : List Int) (w : World) (hn : L.length = k) (hl : k * 8 ≤ 140737488355328) (hat : IAt w a L) :
    Calls Tryz.prog 5 #[.slice a k c] w fun e w' => ∃ ra rc, e = .returned (.slice ra k rc) ∧ k ≤ rc ∧ IOwn w' w.heap.size (.slice ra k rc) L ∧ Below w.heap.size w w' := by
  obtain ⟨i0, hi, hz0, hz1, hz2⟩ := info_parts info3
  replace hn := hid hn
  replace hat := hid hat
  go_enter Tryz.func5, Tryz.ntmps5
  go_wp2_with fail
  go_loopw [3, 4] (fun v i wr => ∃ j : Nat, j ≤ k ∧ i = .int .i64 (j : Int) ∧ Hid (IOwn wr w.heap.size v (L.take j)) ∧ Below w.heap.size w wr) (fun _ i _ => k - (intOf i).toNat)
  case atStart => exact ⟨0, Nat.zero_le _, rfl, hid (IOwn.nil _ _), Below.refl _ _⟩
  case round =>
    obtain ⟨j, hj, rfl, hown, hb⟩ := hrel
    obtain ⟨va, vc, e, hvc⟩ := owns_form hown.out
    subst e
    by_cases hlt : j < k
    · have hjL : j < L.length := by rw [hn.out]; exact hlt
      obtain ⟨b, o, e⟩ := hat.out.place (by omega)
      subst e
      have x0 := (hat.out.below hb).one hjL
      have hlen : (L.take j).length = j := by rw [List.length_take]; omega
      have hnext : L.take (j + 1) = L.take j ++ [itAt L j] := by rw [take_more hjL, itAt_eq hjL]
      replace hnext := hid hnext
      replace hlen := hid hlen
      rw [hlen.out] at hown hvc ⊢
      generalize hDD : L.take j = D at *
      replace hDD := hid hDD
      generalize itAt L j = X at *
      have bl := below_lit wr (.cells #[.int .i64 X] 3)
      have B0 := bnext hb bl
      have hown2 := hid (hown.out.below bl)
      have hcat := hid (cat_lit wr 3 [.int .i64 X] #[.int .i64 X] rfl)
      have hone := hid (one_I X)
      have hlenD : D.length = j := hlen.out
      replace hlenD := hid hlenD
      have hown2' : (wr.alloc (.cells #[.int .i64 X] 3)).ownsRow w.heap.size 3 1 (.slice va j vc) j (D.flatMap ic) := by
        have := hown2.out
        unfold IOwn at this
        rw [hlenD.out] at this
        exact this
      replace hown2' := hid hown2'
      have hbd : (j + 1) * 8 ≤ 140737488355328 := Nat.le_trans (Nat.mul_le_mul_right _ hlt) hl
      go_wp2_with (at_builtin; refine Hid.out ?_)
      refine wpList_cat _ rfl (.tmp 11) (.tmp 16) 22 rfl w.heap.size 3 i0 _ 1 8 Tryz.underlying22 hi hz0 hz1 hz2 rfl (by omega) _ _ _ rfl hown2'.out (some ⟨wr.heap.size, 0, none⟩) 1 1 [.int .i64 X] rfl rfl hcat.out hone.out (by unfold maxLen; omega) hbd B0.size ?_
      intro v' w4 ho4 hg4 hv4
      have hown4 : IOwn w4 w.heap.size v' (D ++ [X]) := by
        unfold IOwn
        rw [List.length_append, hlenD.out]
        simp only [List.flatMap_append]
        exact ho4
      have B4 : Below w.heap.size w w4 := Below.grown B0 hg4 B0.size (fun j hj => (hown2'.out.lt _ hj).1)
      replace hown4 := hid hown4
      clear ho4 hg4 hv4 hcat
      go_wp2_with fail
      go_roundw
      case rel => exact ⟨j + 1, by omega, by go_num, hid (by rw [hnext.out]; exact hown4.out), B4⟩
      case measure => simp [intOf]; omega
    · have hje : j = k := by omega
      subst hje
      have hf : L.take j = L := by rw [← hn.out, List.take_length]
      rw [hf] at hown hvc ⊢
      rw [hn.out] at hown hvc ⊢
      replace hf := hid hf
      go_wp2
      go_ret
      exact ⟨va, vc, rfl, hvc, hown.out, hb⟩

set_option maxRecDepth 100000 in
set_option maxHeartbeats 1600000 in
theorem rlist_any (a : Option Addr) (k c : Nat) (L : List Int) (w : World) (hn : L.length = k) (hl : k ≤ 4611686018427387904) (hat : IAt w a L) :
    Calls Tryz.prog 27 #[.slice a k c] w fun e w' => e = .returned (.bool (listB L)) ∧ Below w.heap.size w w' := by
  have hno := fun i (hi : i < k) (h : ¬ okAt L i) => hid (listB_no (L := L) (fun h2 => h (h2.2.2 i (by omega))))
  have hyes := fun h h1 h32 => hid (listB_yes (L := L) ⟨h1, h32, h⟩)
  have hlen := fun h : ¬ (1 ≤ k ∧ k ≤ 32) => hid (listB_no (L := L) (fun h2 => h ⟨by have := h2.1; omega, by have := h2.2.1; omega⟩))
  replace hn := hid hn
  replace hat := hid hat
  replace hyes := hid hyes
  replace hno := hid hno
  replace hlen := hid hlen
  go_enter Tryz.func27, Tryz.ntmps27
  go_wp2_with fail
  go_loopw [3] (fun i wr => ∃ j : Nat, j ≤ k ∧ i = .int .i64 (j : Int) ∧ Hid (∀ i, i < j → okAt L i) ∧ Below w.heap.size w wr) (fun i _ => k - (intOf i).toNat)
  case atStart => exact ⟨0, Nat.zero_le _, rfl, hid (fun i hi => by omega), Below.refl _ _⟩
  case round =>
    obtain ⟨j, hj, rfl, hok, hb⟩ := hrel
    by_cases hlt : j < k
    · have hjL : j < L.length := by rw [hn.out]; exact hlt
      obtain ⟨b, o, e⟩ := hat.out.place (by omega)
      subst e
      have x0 := (hat.out.below hb).one hjL
      have hbad := fun h => (hno.out j hlt h).out
      have hstep : okAt L j → ∀ i, i < j + 1 → okAt L i := fun h i hi => by
        rcases Nat.lt_or_ge i j with h3 | h3
        · exact hok.out i h3
        · obtain rfl : i = j := by omega
          exact h
      obtain ⟨X, hX⟩ : ∃ X, X = itAt L j := ⟨_, rfl⟩
      by_cases c1 : X < 0
      · have e1 : decide (X < 0) = true := decide_eq_true c1
        have hf := hid (hbad fun h => by have := h.1; omega)
        rw [← hX] at x0
        clear hbad hstep
        replace hX := hid hX
        go_wp2_with fail
        go_quiet (fail)
        have B1 := below_drewN hb nq
        go_wp2
        go_ret
        exact ⟨ret_bool hf.out.symm, B1⟩
      · by_cases c2 : 9999 < X
        · have e1 : decide (X < 0) = false := decide_eq_false c1
          have e2 : decide (9999 < X) = true := decide_eq_true c2
          have hf := hid (hbad fun h => by have := h.2.1; omega)
          rw [← hX] at x0
          clear hbad hstep
          replace hX := hid hX
          go_wp2_with fail
          go_quiet (fail)
          have B1 := below_drewN hb nq
          go_wp2
          go_ret
          exact ⟨ret_bool hf.out.symm, B1⟩
        · have e1 : decide (X < 0) = false := decide_eq_false c1
          have e2 : decide (9999 < X) = false := decide_eq_false c2
          rcases j with _ | m
          · have hok1 := hid (hstep ⟨by omega, by omega, fun h => absurd h (by omega)⟩)
            rw [← hX, Nat.add_zero] at x0
            clear hbad hstep
            replace hX := hid hX
            go_wp2_with fail
            go_quiet (fail)
            have B1 := below_drewN hb nq
            generalize wr.drewN nq = W1 at *
            go_wp2_with fail
            go_roundw
            case rel => exact ⟨1, by omega, by go_num, hok1, B1⟩
            case measure => simp [intOf]; omega
          · have x1 := (hat.out.below hb).one (i := m) (by omega)
            have e3 : decide ((0 : Int) < ((m + 1 : Nat) : Int)) = true := decide_eq_true (by omega)
            have e3b : decide ((0 : Int) < ((m : Nat) : Int) + 1) = true := decide_eq_true (by omega)
            have hw : IntKind.i64.wrap (((m + 1 : Nat) : Int) - 1) = (m : Int) := by rw [IntKind.wrap_i64]; omega
            have hs2 : itAt L m < itAt L (m + 1) → okAt L (m + 1) := fun h => ⟨by omega, by omega, fun _ => h⟩
            have hb2 : ¬ itAt L m < itAt L (m + 1) → ¬ okAt L (m + 1) := fun h h2 => h (h2.2.2 (by omega))
            rw [← hX] at x0 hs2 hb2
            generalize itAt L m = Y at *
            by_cases c4 : Y < X
            · have e4 : decide (X ≤ Y) = false := decide_eq_false (by omega)
              have hok1 := hid (hstep (hs2 c4))
              clear hbad hstep hs2 hb2
              replace hX := hid hX
              go_wp2_with fail
              go_quiet (fail)
              have B1 := below_drewN hb nq
              generalize wr.drewN nq = W1 at *
              go_wp2_with fail
              go_roundw
              case rel => exact ⟨m + 2, by omega, by go_num, hok1, B1⟩
              case measure => simp [intOf]; omega
            · have e4 : decide (X ≤ Y) = true := decide_eq_true (by omega)
              have hf := hid (hbad (hb2 c4))
              clear hbad hstep hs2 hb2
              replace hX := hid hX
              go_wp2_with fail
              go_quiet (fail)
              have B1 := below_drewN hb nq
              go_wp2
              go_ret
              exact ⟨ret_bool hf.out.symm, B1⟩
    · have hje : j = k := by omega
      by_cases h1 : 1 ≤ k
      · by_cases h32 : k ≤ 32
        · have hf := hid (hyes.out (fun i hi => hok.out i (by have := hn.out; omega)) (by have := hn.out; omega) (by have := hn.out; omega)).out
          have d1 : decide ((1 : Int) ≤ (k : Int)) = true := decide_eq_true (by omega)
          have d2 : decide ((k : Int) ≤ 32) = true := decide_eq_true (by omega)
          subst hje
          go_wp2
          go_ret
          exact ⟨ret_bool hf.out.symm, hb⟩
        · have hf := hid (hlen.out (fun h => h32 h.2)).out
          have d1 : decide ((1 : Int) ≤ (k : Int)) = true := decide_eq_true (by omega)
          have d2 : decide ((k : Int) ≤ 32) = false := decide_eq_false (by omega)
          subst hje
          go_wp2
          go_ret
          exact ⟨ret_bool hf.out.symm, hb⟩
      · have hf := hid (hlen.out (fun h => h1 h.1)).out
        have d1 : decide ((1 : Int) ≤ (k : Int)) = false := decide_eq_false (by omega)
        subst hje
        go_wp2
        go_ret
        exact ⟨ret_bool hf.out.symm, hb⟩
end Go.Proofs.YtomdghodbkhkaaaGreatDoor
