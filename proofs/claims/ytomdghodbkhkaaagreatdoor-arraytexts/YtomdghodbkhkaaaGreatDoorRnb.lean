/- The document's number of a text. -/
import Derived.Test.YtomdghodbkhkaaaGreatDoorRdg
namespace Go.Proofs.YtomdghodbkhkaaaGreatDoor
open Go.RowKit
set_option linter.unusedVariables false
set_option linter.unusedSimpArgs false

/-- What number answers: below 0 where the text tells none. -/
def nbV (l : List UInt8) : Int := match numP l with | some n => (n : Int) | none => -1
theorem nb_acc {l : List UInt8} (h : numAcc l 0 = none) : nbV l = -1 := by unfold nbV numP; rw [h]; simp
theorem nb_long {l : List UInt8} (h : 4 < l.length) : nbV l = -1 := by unfold nbV numP; rw [if_pos (.inr (.inl h))]
theorem nb_nil : nbV [] = -1 := by unfold nbV numP; rw [if_pos (.inl rfl)]
theorem nb_zero {l : List UInt8} (h1 : 1 < l.length) (h : l[0]'(by omega) = 48) : nbV l = -1 := by
  unfold nbV numP
  rw [if_pos (.inr (.inr ⟨by rw [List.head?_eq_getElem?, List.getElem?_eq_getElem (by omega), h], fun e => by rw [e] at h1; simp at h1⟩))]
theorem nb_good {l : List UInt8} {n : Nat} (h0 : 0 < l.length) (h4 : l.length ≤ 4) (hz : ¬ (1 < l.length ∧ l[0]'h0 = 48)) (h : numAcc l 0 = some n) : nbV l = (n : Int) := by
  unfold nbV numP
  rw [if_neg]
  · rw [h]
  · rintro (h1 | h1 | ⟨h1, h2⟩)
    · rw [h1] at h0; simp at h0
    · omega
    · rw [List.head?_eq_getElem?, List.getElem?_eq_getElem h0] at h1
      have h3 : l[0] = 48 := by simpa using h1
      rcases Nat.lt_or_ge 1 l.length with h5 | h5
      · exact hz ⟨h5, h3⟩
      · apply h2
        have : l.length = 1 := by omega
        obtain ⟨x, rfl⟩ := List.length_eq_one_iff.1 this
        simp at h3; rw [h3]

set_option maxRecDepth 100000 in
set_option maxHeartbeats 1600000 in
theorem number_any (l : List UInt8) (hl : l.length ≤ 9223372036854775807) (w : World) : Calls Tryz.prog 41 #[Str l] w fun e w' => e = .returned (.int .i64 (nbV l)) ∧ Below w.heap.size w w' := by
  obtain ⟨s, hs, hsz, hget, hS, hdl⟩ := str_facts l
  have hix : ∀ (i : Nat) (hi : i < l.length) (w : World), (Instr.index 9 (.string s) (.int .i64 (i : Int))).run Tryz.prog w = .ok (.int .u8 (l[i].toNat : Int)) w := fun i hi w => by
    subst hs
    rw [run_index_string w 9 _ .i64 i Tryz.underlying9, dif_pos ⟨by omega, by show (i : Int) < ((l.length : Nat) : Int); omega⟩]
    rfl
  rw [hS]
  replace hs := hid hs
  replace hS := hid hS
  replace hdl := hid hdl
  replace hget := hid hget
  replace hix := hid hix
  go_enter Tryz.func41, Tryz.ntmps41
  go_wp2_with fail
  go_loopw [3, 4] (fun v i wr => ∃ j n : Nat, j ≤ l.length ∧ j ≤ 4 ∧ n < 10 ^ j ∧ v = .int .i64 (n : Int) ∧ i = .int .i64 (j : Int) ∧ Hid (numAcc l 0 = numAcc (l.drop j) n) ∧ Hid (Below w.heap.size w wr)) (fun _ i _ => l.length - (intOf i).toNat)
  case atStart => exact ⟨0, 0, Nat.zero_le _, by omega, by omega, rfl, rfl, hid (by simp), hid (Below.refl _ _)⟩
  case round =>
    obtain ⟨j, n, hj, hj4, hn, rfl, rfl, hacc, hb⟩ := hrel
    have hn3 := pow_le4 hn hj4
    by_cases hlt : j < l.length
    · have hx := hix.out j hlt
      have hd := acc_drop (n := n) hlt
      generalize l[j] = b at hd hx
      by_cases hdig : 48 ≤ b.toNat ∧ b.toNat ≤ 57
      · obtain ⟨d, hd1⟩ : ∃ d : Nat, b.toNat = 48 + d := ⟨b.toNat - 48, by omega⟩
        rw [hd1] at hx hd
        rw [if_pos (by omega), show 48 + d - 48 = d by omega] at hd
        have hd10 : d < 10 := by omega
        have hn2 : n * 10 + d < 10 ^ (j + 1) := by rw [Nat.pow_succ]; omega
        have hacc2 := hid (hacc.out.trans hd)
        have e48 : (((48 + d : Nat)) : Int) = 48 + (d : Int) := by omega
        rw [e48] at hx
        have d1 : decide ((48 : Int) + (d : Int) < 48) = false := decide_eq_false (by omega)
        have d2 : decide ((57 : Int) < 48 + (d : Int)) = false := decide_eq_false (by omega)
        replace hd := hid hd
        replace hn2 := hid hn2
        replace e48 := hid e48
        clear hdig hd1
        by_cases h3 : 3 < j
        · have d3 : decide ((3 : Int) < (j : Int)) = true := decide_eq_true (by omega)
          have hv := hid (nb_long (l := l) (by omega))
          go_wp2
          go_ret
          exact ⟨by rw [hv.out] <;> rfl, hb.out⟩
        · have d3 : decide ((3 : Int) < (j : Int)) = false := decide_eq_false (by omega)
          go_wp2_with fail
          go_roundw
          case rel => exact ⟨j + 1, n * 10 + d, by omega, by omega, hn2.out, by go_num, by go_num, hacc2, hb⟩
          case measure => simp [intOf]; omega
      · rw [if_neg hdig] at hd
        have hv := hid (nb_acc (hacc.out.trans hd))
        obtain ⟨X, hX⟩ : ∃ X : Int, X = (b.toNat : Int) := ⟨_, rfl⟩
        rw [← hX] at hx
        have hX2 : (X < 48 ∧ decide (X < 48) = true) ∨ (decide (X < 48) = false ∧ decide (57 < X) = true) := by
          by_cases h : X < 48
          · exact .inl ⟨h, decide_eq_true h⟩
          · exact .inr ⟨decide_eq_false h, decide_eq_true (by omega)⟩
        replace hX := hid hX
        replace hd := hid hd
        clear hdig
        rcases hX2 with ⟨_, d1⟩ | ⟨d1, d2⟩
        · go_wp2
          go_ret
          exact ⟨by rw [hv.out] <;> rfl, hb.out⟩
        · go_wp2
          go_ret
          exact ⟨by rw [hv.out] <;> rfl, hb.out⟩
    · have hje : j = l.length := by omega
      have hac : numAcc l 0 = some n := by rw [hacc.out, hje, List.drop_length]; rfl
      have dj : decide ((j : Int) < (s.size : Int)) = false := decide_eq_false (by omega)
      by_cases h0 : l = []
      · have e1 : s.toList.isEmpty = true := by rw [hdl.out, h0]; rfl
        have e2 : (s.toList == []) = true := by rw [hdl.out, h0]; rfl
        have hv : Hid (nbV l = -1) := hid (by rw [h0]; exact nb_nil)
        replace hje := hid hje
        replace h0 := hid h0
        replace hac := hid hac
        go_wp2
        go_ret
        exact ⟨by rw [hv.out] <;> rfl, hb.out⟩
      · have hpos : 0 < l.length := List.length_pos_iff.2 h0
        have e1 : s.toList.isEmpty = false := by rw [hdl.out]; cases l; exact absurd rfl h0; rfl
        have e2 : (s.toList == []) = false := by rw [hdl.out]; cases l; exact absurd rfl h0; rfl
        have hx := fun w => idx0 l s hs.out hpos 9 Tryz.underlying9 w
        by_cases h1 : 1 < l.length
        · have d3 : decide ((1 : Int) < (s.size : Int)) = true := decide_eq_true (by omega)
          obtain ⟨X, hX⟩ : ∃ X : Int, X = (l[0].toNat : Int) := ⟨_, rfl⟩
          rw [← hX] at hx
          have hX0 : ((l[0].toNat : Int) = 48) ↔ l[0] = 48 := ⟨fun h => UInt8.toNat_inj.1 (by show l[0].toNat = 48; omega), fun h => by rw [h]; rfl⟩
          by_cases hc : l[0] = 48
          · have d4 : (X == 48) = true := by rw [hX, hX0.2 hc]; rfl
            have hv := hid (nb_zero h1 hc)
            replace hje := hid hje
            replace hX := hid hX
            replace hac := hid hac
            replace h0 := hid h0
            replace hX0 := hid hX0
            replace hc := hid hc
            go_wp2
            go_ret
            exact ⟨by rw [hv.out] <;> rfl, hb.out⟩
          · have d4 : (X == 48) = false := by
              rw [hX]
              have : ¬ (l[0].toNat : Int) = 48 := fun h => hc (hX0.1 h)
              simpa using this
            have hv := hid (nb_good hpos (by omega) (fun h => hc h.2) hac)
            replace hje := hid hje
            replace hX := hid hX
            replace hac := hid hac
            replace h0 := hid h0
            replace hX0 := hid hX0
            replace hc := hid hc
            go_wp2
            go_ret
            exact ⟨by rw [hv.out] <;> rfl, hb.out⟩
        · have d3 : decide ((1 : Int) < (s.size : Int)) = false := decide_eq_false (by omega)
          have hv := hid (nb_good hpos (by omega) (fun h => h1 h.1) hac)
          replace hje := hid hje
          replace hac := hid hac
          replace h0 := hid h0
          clear hx
          go_wp2
          go_ret
          exact ⟨by rw [hv.out] <;> rfl, hb.out⟩
end Go.Proofs.YtomdghodbkhkaaaGreatDoor
