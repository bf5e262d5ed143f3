/- The document's Has, bit, Of, List, Within, First. -/
import Derived.Test.YtomdghodbkhkaaaGreatDoorNdNums
namespace Go.Proofs.YtomdghodbkhkaaaGreatDoor.Nd
open Go.RowKit

def hasR (s : Nat) (i : Int) : Bool := decide (0 ≤ i) && (decide (i < 32) && s.testBit i.toNat)

theorem hasR_nat (s n : Nat) (hn : n < 32) : hasR s (n : Int) = s.testBit n := by simp [hasR]; omega

theorem half_bit (s n : Nat) : decide (s / 2 ^ n % 2 = 1) = s.testBit n := by
  rw [Nat.testBit_eq_decide_div_mod_eq]

set_option maxHeartbeats 800000 in
theorem hasr_any (s : Nat) (i : Int) (hs : s < 4294967296) (h0 : -1 ≤ i) (h1 : i ≤ 40) (w : World) :
    Calls Tryz.prog 73 #[.int .u32 (s : Int), .int .i64 i] w fun e w' => e = .returned (.bool (hasR s i)) ∧ w' = w := by
  go_enter Tryz.func73, Tryz.ntmps73
  go_wp2_with fail
  go_loopw [0, 5] (fun v k wr => ∃ j : Nat, (j : Int) ≤ max i 0 ∧ v = .int .u32 ((s / 2 ^ j : Nat) : Int) ∧ k = .int .i64 (j : Int) ∧ wr = w) (fun _ k _ => 41 - (intOf k).toNat)
  case atStart => exact ⟨0, by omega, by simp, rfl, rfl⟩
  case round =>
    obtain ⟨j, hj, rfl, rfl, rfl⟩ := hrel
    have hlt2 : s / 2 ^ j < 4294967296 := Nat.lt_of_le_of_lt (Nat.div_le_self _ _) hs
    have hsucc : s / 2 ^ j / 2 = s / 2 ^ (j + 1) := by rw [Nat.div_div_eq_div_mul, Nat.pow_succ]
    by_cases hlt : (j : Int) < i
    · have d : decide ((j : Int) < i) = true := by simpa using hlt
      replace hsucc := hid hsucc
      generalize s / 2 ^ j = S at *
      go_wp2_with fail
      go_roundw
      case rel => exact ⟨j + 1, by omega, by rw [← hsucc.out]; simp, by go_num, trivial⟩
      case measure => simp [intOf]; omega
    · have d : decide ((j : Int) < i) = false := by simpa using hlt
      by_cases hneg : i < 0
      · have hf := hid (show hasR s i = false by unfold hasR; rw [show decide (0 ≤ i) = false by simp; omega]; rfl)
        have d2 : decide (0 ≤ i) = false := by simp; omega
        generalize s / 2 ^ j = S at *
        go_wp2
        go_ret
        rw [hf.out]
        exact ⟨rfl, rfl⟩
      · obtain ⟨n, rfl⟩ : ∃ n : Nat, i = (n : Int) := ⟨i.toNat, by omega⟩
        have hjn : j = n := by omega
        subst hjn
        have hbit := hid (half_bit s j)
        by_cases h32 : j < 32
        · have hf := hid (hasR_nat s j h32)
          generalize s / 2 ^ j = S at *
          go_wp2
          go_ret
          rw [hf.out, ← hbit.out]
          refine ⟨ret_bool ?_, rfl⟩
          have e : ((S : Int) % 2 == 1) = decide (S % 2 = 1) := by
            by_cases h : S % 2 = 1
            · have : (S : Int) % 2 = 1 := by omega
              simp [h, this]
            · have : ¬ (S : Int) % 2 = 1 := by omega
              simp [h, this]
          exact e
        · have hf := hid (show hasR s (j : Int) = false by unfold hasR; rw [show decide ((j : Int) < 32) = false by simp; omega]; simp)
          have d3 : decide ((j : Int) < 32) = false := by simp; omega
          generalize s / 2 ^ j = S at *
          go_wp2
          go_ret
          rw [hf.out]
          exact ⟨rfl, rfl⟩

/-- A node that is not there is added. -/
theorem add_or (s n : Nat) (hs : s < 4294967296) (hn : n < 32) (h : s.testBit n = false) : (s + 2 ^ n) % 4294967296 = s ||| 2 ^ n := by
  have hp := pow_lt32 hn
  have hand : s &&& 2 ^ n = 0 := (and_pow s n).2 h
  have e := BitVec.add_eq_or_of_and_eq_zero (BitVec.ofNat 32 s) (BitVec.ofNat 32 (2 ^ n)) (by
    apply BitVec.eq_of_toNat_eq
    rw [BitVec.toNat_and, BitVec.toNat_ofNat, BitVec.toNat_ofNat, Nat.mod_eq_of_lt hs, Nat.mod_eq_of_lt hp, hand]; rfl)
  have e2 := congrArg BitVec.toNat e
  rw [BitVec.toNat_add, BitVec.toNat_or, BitVec.toNat_ofNat, BitVec.toNat_ofNat, Nat.mod_eq_of_lt hs, Nat.mod_eq_of_lt hp] at e2
  exact e2

theorem or_same (s n : Nat) (h : s.testBit n = true) : s ||| 2 ^ n = s := by
  apply Nat.eq_of_testBit_eq
  intro i
  rw [Nat.testBit_or, Nat.testBit_two_pow]
  by_cases e : n = i
  · subst e; simp [h]
  · simp [e]

set_option maxHeartbeats 400000 in
set_option maxRecDepth 100000 in
theorem listr_any (s : Nat) (hs : s < 4294967296) (w : World) :
    Calls Tryz.prog 49 #[.int .u32 (s : Int)] w fun e w' => ∃ v, e = .returned v ∧ NOwn w' w.heap.size v (L2 (lst s)) ∧ Below w.heap.size w w' := by
  obtain ⟨i0, hi0, hz0, hz1, hz2⟩ := info_parts info3
  go_enter Tryz.func49, Tryz.ntmps49
  go_wp2_with fail
  go_loopw [3, 4] (fun v i wr => ∃ j : Nat, j ≤ 32 ∧ i = .int .i64 (j : Int) ∧ NOwn wr w.heap.size v (L2 (lstk s j)) ∧ Below w.heap.size w wr) (fun _ i _ => 32 - (intOf i).toNat)
  case atStart => exact ⟨0, Nat.zero_le _, rfl, by unfold NOwn; exact World.ownsRow_nil _ _ _ _, Below.refl _ _⟩
  case round =>
    obtain ⟨j, hj, rfl, hv, hb⟩ := hrel
    by_cases hlt : j < 32
    · have hse := lstk_succ s j
      have hlen := lstk_len s j
      have kh := fun w => hasr_any s (j : Int) hs (by omega) (by omega) w
      rw [hasR_nat s j hlt] at kh
      cases hbit : s.testBit j
      · rw [hbit] at hse kh
        replace hse := hid hse
        replace hv := hid hv
        go_wp2_with fail
        refine (kh _).mono ?_
        rintro e w1 ⟨rfl, rfl⟩
        go_wp2_with fail
        go_roundw
        case rel => exact ⟨j + 1, by omega, by go_num, by rw [hse.out]; exact hv.out, hb⟩
        case measure => simp [intOf]; omega
      · rw [hbit] at hse kh
        replace hse := hid hse
        replace hv := hid hv
        have hl2 : (L2 (lstk s j)).length ≤ 32 := by simp [L2]; omega
        go_wp2_with fail
        refine (kh _).mono ?_
        rintro e w1 ⟨rfl, rfl⟩
        go_wp2_with (at_builtin; refine Hid.out ?_)
        have bl := below_lit w1 (.cells #[.int .i64 (j : Int)] 3)
        have hv2 := owns_below hv.out bl
        have B1 := bnext hb bl
        refine wpList_cat _ rfl (.tmp 12) (.tmp 14) 22 rfl w.heap.size 3 i0 _ 1 8 Tryz.underlying22 hi0 hz0 hz1 hz2 rfl (by omega) _ _ _ rfl hv2 (some ⟨w1.heap.size, 0, none⟩) 1 _ [.int .i64 (j : Int)] rfl rfl (cat_lit _ _ _ _ rfl) (int_one _) (by unfold maxLen; omega) (by omega) B1.size ?_
        intro v3 w3 hr3 hg3 hv3
        go_wp2_with fail
        go_roundw
        case rel =>
          refine ⟨j + 1, by omega, by go_num, ?_, ?_⟩
          · rw [hse.out]
            unfold NOwn
            simpa [L2, I] using hr3
          · exact B1.grown hg3 B1.size (fun k hk => (hv2.lt k hk).1)
        case measure => simp [intOf]; omega
    · have hje : j = 32 := by omega
      subst hje
      go_wp2
      go_ret
      exact ⟨_, rfl, hv, hb⟩

end Go.Proofs.YtomdghodbkhkaaaGreatDoor.Nd
