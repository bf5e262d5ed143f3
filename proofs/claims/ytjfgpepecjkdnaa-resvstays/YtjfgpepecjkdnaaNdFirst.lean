/- First; whether one set is within another. -/
import Derived.Test.YtjfgpepecjkdnaaNdNums
namespace Go.Proofs.Ytjfgpepecjkdnaa.Nd
open Go.RowKit

def firstP (s : Nat) (n : Int) : Nat × Bool := if n < 0 ∨ (cnt s : Int) < n then (0, false) else (lowk s n.toNat 32, true)

set_option maxHeartbeats 800000 in
theorem first_any (s : Nat) (n : Int) (hs : s < 4294967296) (w : World) :
    Calls Try.prog 46 #[.int .u32 (s : Int), .int .i64 n] w fun e w' => e = .returned (.tuple #[.int .u32 ((firstP s n).1 : Int), .bool (firstP s n).2]) ∧ Below w.heap.size w w' := by
  have hc := cnt_le s
  by_cases h1 : n < 0
  · have hf := hid (show firstP s n = (0, false) by unfold firstP; rw [if_pos (.inl h1)])
    have d1 : decide (n < 0) = true := by simpa using h1
    go_enter Try.func46, Try.ntmps46
    go_wp2_with (go_at_call 34; refine (count_any s hs _).mono ?_; rintro e w1 ⟨rfl, hb1⟩)
    go_ret2
    rw [hf.out]
    exact ⟨rfl, Below.refl _ _⟩
  · have d1 : decide (n < 0) = false := by simpa using h1
    by_cases h2 : (cnt s : Int) < n
    · have hf := hid (show firstP s n = (0, false) by unfold firstP; rw [if_pos (.inr h2)])
      have d2 : decide ((cnt s : Int) < n) = true := by simpa using h2
      go_enter Try.func46, Try.ntmps46
      go_wp2_with (go_at_call 34; refine (count_any s hs _).mono ?_; rintro e w1 ⟨rfl, hb1⟩)
      go_ret2
      rw [hf.out]
      exact ⟨rfl, hb1⟩
    · have d2 : decide ((cnt s : Int) < n) = false := by simpa using h2
      have hf := hid (show firstP s n = (lowk s n.toNat 32, true) by unfold firstP; rw [if_neg (by omega)])
      obtain ⟨m, rfl⟩ : ∃ m : Nat, n = (m : Int) := ⟨n.toNat, by omega⟩
      rw [Int.toNat_natCast] at hf
      have d2' : decide (cnt s < m) = false := by simp; omega
      go_enter Try.func46, Try.ntmps46
      go_wp2_with (go_at_call 34; refine (count_any s hs _).mono ?_; rintro e w1 ⟨rfl, hb1⟩)
      go_loopw [6, 16] (fun v i wr => ∃ j : Nat, j ≤ 32 ∧ v = .int .u32 (lowk s m j : Int) ∧ i = .int .i64 (j : Int) ∧ Below w.heap.size w wr) (fun _ i _ => 32 - (intOf i).toNat)
      case atStart => exact ⟨0, Nat.zero_le _, by rw [low_k0]; rfl, rfl, hb1⟩
      case round =>
        obtain ⟨j, hj, rfl, rfl, hb⟩ := hrel
        by_cases hlt : j < 32
        · have hse := hid (lowk_succ s m hlt)
          have hll := lowk_lt s m hj
          have ho := or_pow (lowk s m j) j hll hlt
          cases hbit : s.testBit j
          · go_wp2_with (first | (go_at_call 63; refine (has_any s j hs hlt _).mono ?_; rintro e w2 ⟨rfl, rfl⟩; rw [hbit]))
            go_roundw
            case rel => exact ⟨j + 1, by omega, by rw [hse.out, hbit]; simp, by go_num, hb⟩
            case measure => simp [intOf]; omega
          · by_cases h3 : cnt (lowk s m j) < m
            · have d3 : decide (cnt (lowk s m j) < m) = true := by simpa using h3
              have hse2 := hid (show lowk s m (j + 1) = lowk s m j ||| 2 ^ j by rw [hse.out, if_pos ⟨hbit, h3⟩])
              generalize lowk s m j = S at *
              go_wp2_with (first | (go_at_call 63; refine (has_any s j hs hlt _).mono ?_; rintro e w2 ⟨rfl, rfl⟩; rw [hbit]) | (go_at_call 34; refine (count_any S hll _).mono ?_; rintro e w3 ⟨rfl, hb3⟩) | (go_at_call 64; refine (only_any j hlt _).mono ?_; rintro e w4 ⟨rfl, rfl⟩))
              go_roundw
              case rel => exact ⟨j + 1, by omega, by rw [hse2.out], by go_num, bnext hb hb3⟩
              case measure => simp [intOf]; omega
            · have d3 : decide (cnt (lowk s m j) < m) = false := by simpa using h3
              have hse2 := hid (show lowk s m (j + 1) = lowk s m j by rw [hse.out, if_neg (fun h => h3 h.2)])
              generalize lowk s m j = S at *
              go_wp2_with (first | (go_at_call 63; refine (has_any s j hs hlt _).mono ?_; rintro e w2 ⟨rfl, rfl⟩; rw [hbit]) | (go_at_call 34; refine (count_any S hll _).mono ?_; rintro e w3 ⟨rfl, hb3⟩) | (go_at_call 64; refine (only_any j hlt _).mono ?_; rintro e w4 ⟨rfl, rfl⟩))
              go_roundw
              case rel => exact ⟨j + 1, by omega, by rw [hse2.out], by go_num, bnext hb hb3⟩
              case measure => simp [intOf]; omega
        · have hje : j = 32 := by omega
          subst hje
          go_wp2
          go_ret2
          rw [hf.out]
          exact ⟨rfl, hb⟩

theorem within_any (a b : Nat) (ha : a < 4294967296) (hb : b < 4294967296) (w : World) : Calls Try.prog 47 #[.int .u32 (a : Int), .int .u32 (b : Int)] w fun e w' => e = .returned (.bool (decide (a &&& (4294967295 - b) = 0))) ∧ w' = w := by
  go_enter Try.func47, Try.ntmps47
  go_wp2
  go_ret
  refine ⟨ret_bool ?_, rfl⟩
  rw [u32_andNot_nat a b ha hb]
  generalize a &&& (4294967295 - b) = x
  by_cases h : x = 0
  · simp [h]
  · simp [h]

end Go.Proofs.Ytjfgpepecjkdnaa.Nd
