/- The document's Has, bit, Of, List, Within, First. -/
import Derived.Test.YtflapjehkgefdaaGreatNdNums
namespace Go.Proofs.YtflapjehkgefdaaGreat.Nd
open Go.RowKit

def hasR (s : Nat) (i : Int) : Bool := decide (0 ≤ i) && (decide (i < 32) && s.testBit i.toNat)

theorem hasR_nat (s n : Nat) (hn : n < 32) : hasR s (n : Int) = s.testBit n := by simp [hasR]; omega

theorem half_bit (s n : Nat) : decide (s / 2 ^ n % 2 = 1) = s.testBit n := by
  rw [Nat.testBit_eq_decide_div_mod_eq]

set_option maxHeartbeats 800000 in
theorem hasr_any (s : Nat) (i : Int) (hs : s < 4294967296) (h0 : -1 ≤ i) (h1 : i ≤ 40) (w : World) :
    Calls Tryz.prog 65 #[.int .u32 (s : Int), .int .i64 i] w fun e w' => e = .returned (.bool (hasR s i)) ∧ w' = w := by
  go_enter Tryz.func65, Tryz.ntmps65
  go_wp2_with fail
  go_loopw [0, 5] (fun v k wr => ∃ j : Nat, (j : Int) ≤ max i 0 ∧ v = .int .u32 ((s / 2 ^ j : Nat) : Int) ∧ k = .int .i64 (j : Int) ∧ wr = w) (fun _ k _ => 41 - (intOf k).toNat)
  case atStart => exact ⟨0, by omega, by simp, rfl, rfl⟩
  case round =>
    obtain ⟨j, hj, rfl, rfl, rfl⟩ := hrel
    have hlt2 : s / 2 ^ j < 4294967296 := Nat.lt_of_le_of_lt (Nat.div_le_self _ _) hs
    have hsucc : s / 2 ^ j / 2 = s / 2 ^ (j + 1) := by rw [Nat.div_div_eq_div_mul, Nat.pow_succ]
    by_cases hlt : (j : Int) < i
    · have d : decide ((j : Int) < i) = true := by simpa using hlt
      replace hsucc := hid hsucc
      generalize s / 2 ^ j = S at *
      go_wp2_with fail
      go_roundw
      case rel => exact ⟨j + 1, by omega, by rw [← hsucc.out]; simp, by go_num, trivial⟩
      case measure => simp [intOf]; omega
    · have d : decide ((j : Int) < i) = false := by simpa using hlt
      by_cases hneg : i < 0
      · have hf := hid (show hasR s i = false by unfold hasR; rw [show decide (0 ≤ i) = false by simp; omega]; rfl)
        have d2 : decide (0 ≤ i) = false := by simp; omega
        generalize s / 2 ^ j = S at *
        go_wp2
        go_ret
        rw [hf.out]
        exact ⟨rfl, rfl⟩
      · obtain ⟨n, rfl⟩ : ∃ n : Nat, i = (n : Int) := ⟨i.toNat, by omega⟩
        have hjn : j = n := by omega
        subst hjn
        have hbit := hid (half_bit s j)
        by_cases h32 : j < 32
        · have hf := hid (hasR_nat s j h32)
          generalize s / 2 ^ j = S at *
          go_wp2
          go_ret
          rw [hf.out, ← hbit.out]
          refine ⟨ret_bool ?_, rfl⟩
          have e : ((S : Int) % 2 == 1) = decide (S % 2 = 1) := by
            by_cases h : S % 2 = 1
            · have : (S : Int) % 2 = 1 := by omega
              simp [h, this]
            · have : ¬ (S : Int) % 2 = 1 := by omega
              simp [h, this]
          exact e
        · have hf := hid (show hasR s (j : Int) = false by unfold hasR; rw [show decide ((j : Int) < 32) = false by simp; omega]; simp)
          have d3 : decide ((j : Int) < 32) = false := by simp; omega
          generalize s / 2 ^ j = S at *
          go_wp2
          go_ret
          rw [hf.out]
          exact ⟨rfl, rfl⟩

theorem bitr_any (n : Nat) (hn : n < 32) (w : World) : Calls Tryz.prog 76 #[.int .i64 (n : Int)] w fun e w' => e = .returned (.int .u32 ((2 ^ n : Nat) : Int)) ∧ w' = w := by
  go_enter Tryz.func76, Tryz.ntmps76
  go_wp2_with fail
  go_loopw [3, 4] (fun v k wr => ∃ j : Nat, j ≤ n ∧ v = .int .u32 ((2 ^ j : Nat) : Int) ∧ k = .int .i64 (j : Int) ∧ wr = w) (fun _ k _ => n - (intOf k).toNat)
  case atStart => exact ⟨0, by omega, rfl, rfl, rfl⟩
  case round =>
    obtain ⟨j, hj, rfl, rfl, rfl⟩ := hrel
    have hp := pow_lt32 (show j < 32 by omega)
    by_cases hlt : j < n
    · have hp2 := pow_lt32 (show j + 1 < 32 by omega)
      have hsucc : 2 ^ j * 2 = 2 ^ (j + 1) := by rw [Nat.pow_succ]
      rw [← hsucc] at hp2
      replace hsucc := hid hsucc
      generalize (2 : Nat) ^ j = S at *
      go_wp2_with fail
      go_roundw
      case rel => exact ⟨j + 1, by omega, by rw [← hsucc.out]; simp, by go_num, trivial⟩
      case measure => simp [intOf]; omega
    · have hje : j = n := by omega
      subst hje
      obtain ⟨S, hS⟩ : ∃ S : Nat, S = 2 ^ j := ⟨_, rfl⟩
      rw [← hS] at hp ⊢
      replace hS := hid hS
      go_wp2
      go_ret
      rw [← hS.out]
      exact ⟨rfl, rfl⟩

/-- A node that is not there is added. -/
theorem add_or (s n : Nat) (hs : s < 4294967296) (hn : n < 32) (h : s.testBit n = false) : (s + 2 ^ n) % 4294967296 = s ||| 2 ^ n := by
  have hp := pow_lt32 hn
  have hand : s &&& 2 ^ n = 0 := (and_pow s n).2 h
  have e := BitVec.add_eq_or_of_and_eq_zero (BitVec.ofNat 32 s) (BitVec.ofNat 32 (2 ^ n)) (by
    apply BitVec.eq_of_toNat_eq
    rw [BitVec.toNat_and, BitVec.toNat_ofNat, BitVec.toNat_ofNat, Nat.mod_eq_of_lt hs, Nat.mod_eq_of_lt hp, hand]; rfl)
  have e2 := congrArg BitVec.toNat e
  rw [BitVec.toNat_add, BitVec.toNat_or, BitVec.toNat_ofNat, BitVec.toNat_ofNat, Nat.mod_eq_of_lt hs, Nat.mod_eq_of_lt hp] at e2
  exact e2

theorem or_same (s n : Nat) (h : s.testBit n = true) : s ||| 2 ^ n = s := by
  apply Nat.eq_of_testBit_eq
  intro i
  rw [Nat.testBit_or, Nat.testBit_two_pow]
  by_cases e : n = i
  · subst e; simp [h]
  · simp [e]

set_option maxHeartbeats 800000 in
theorem ofr_any (a : Option Addr) (n c : Nat) (Z : List Int) (w : World) (hn : Z.length = n) (hl : n ≤ 4611686018427387904) (hat : CAt w a (Z.map I)) :
    Calls Tryz.prog 64 #[.slice a n c] w fun e w' => e = .returned (.tuple #[.int .u32 ((ofP Z).1 : Int), .int .i64 (ofP Z).2]) ∧ w' = w := by
  replace hn := hid hn
  replace hat := hid hat
  go_enter Tryz.func64, Tryz.ntmps64
  go_wp2_with fail
  go_loopw [4, 5] (fun s i wr => ∃ j : Nat, j ≤ n ∧ s = .int .u32 (setTo Z j : Int) ∧ i = .int .i64 (j : Int) ∧ Hid (OkTo Z j) ∧ wr = w) (fun _ i _ => n - (intOf i).toNat)
  case atStart => exact ⟨0, Nat.zero_le _, rfl, rfl, hid (fun n hn => by simp at hn), rfl⟩
  case round =>
    obtain ⟨j, hj, rfl, rfl, hok, rfl⟩ := hrel
    by_cases hlt : j < n
    · have hjL : j < Z.length := by rw [hn.out]; exact hlt
      obtain ⟨b, o, e⟩ := iat_place hat.out (by intro e; rw [e] at hjL; simp at hjL)
      subst e
      have x0 := iat_cell hat.out j hjL
      by_cases h1 : Z[j] < 0
      · have hf := hid (ofP_bad hjL (.inl h1))
        have d1 : decide (Z[j] < 0) = true := by simpa using h1
        generalize Z[j] = X at *
        go_wp2
        go_ret2
        rw [hf.out]
        exact ⟨rfl, rfl⟩
      · have d1 : decide (Z[j] < 0) = false := by simpa using h1
        by_cases h2 : 31 < Z[j]
        · have hf := hid (ofP_bad hjL (.inr (by omega)))
          have d2 : decide (31 < Z[j]) = true := by simpa using h2
          generalize Z[j] = X at *
          go_wp2
          go_ret2
          rw [hf.out]
          exact ⟨rfl, rfl⟩
        · have d2 : decide (31 < Z[j]) = false := by simpa using h2
          have hok2 := hid (hok.out.next hjL (by omega) (by omega))
          have hst := hid (setTo_succ hjL)
          have hlt2 := setTo_lt hok.out
          obtain ⟨m, hm⟩ : ∃ m : Nat, Z[j] = (m : Int) := ⟨Z[j].toNat, by omega⟩
          rw [hm] at x0 d1 d2 hst h1 h2
          have hm32 : m < 32 := by omega
          have hp := pow_lt32 hm32
          rw [Int.toNat_natCast] at hst
          replace hm := hid hm
          generalize setTo Z j = S at *
          have kh := fun w => hasr_any S (m : Int) hlt2 (by omega) (by omega) w
          rw [hasR_nat S m hm32] at kh
          have kb := fun w => bitr_any m hm32 w
          cases hbit : S.testBit m
          · have hadd := hid (add_or S m hlt2 hm32 hbit)
            rw [hbit] at kh
            replace hbit := hid hbit
            generalize (2 : Nat) ^ m = T at *
            go_wp2_with fail
            refine (kh _).mono ?_
            rintro e w1 ⟨rfl, rfl⟩
            go_wp2_with fail
            refine (kb _).mono ?_
            rintro e w2 ⟨rfl, rfl⟩
            go_wp2_with fail
            go_roundw
            case rel =>
              refine ⟨j + 1, by omega, ?_, by go_num, hok2, trivial⟩
              rw [hst.out, ← hadd.out]
              simp
            case measure => simp [intOf]; omega
          · have hadd := hid (or_same S m hbit)
            rw [hbit] at kh
            replace hbit := hid hbit
            go_wp2_with fail
            refine (kh _).mono ?_
            rintro e w1 ⟨rfl, rfl⟩
            go_wp2_with fail
            go_roundw
            case rel => exact ⟨j + 1, by omega, by rw [hst.out, hadd.out], by go_num, hok2, trivial⟩
            case measure => simp [intOf]; omega
    · have hje : j = n := by omega
      subst hje
      have hfin := hid (ofP_ok (l := Z) (by rw [hn.out]; exact hok.out))
      go_wp2
      go_ret2
      refine ⟨?_, rfl⟩
      rw [hfin.out]
      unfold setTo
      rw [← hn.out, List.take_length]
      rfl

end Go.Proofs.YtflapjehkgefdaaGreat.Nd
