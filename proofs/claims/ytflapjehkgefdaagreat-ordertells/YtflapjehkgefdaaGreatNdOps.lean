/- One node's set, whether a set has a node, how many nodes it has, whether one is within another. -/
import Derived.Test.YtflapjehkgefdaaGreatMem
import Derived.Test.YtflapjehkgefdaaGreatNdBits
import Derived.Lib.BitFns
namespace Go.Proofs.YtflapjehkgefdaaGreat.Nd
open Go.RowKit

theorem pow_lt32 {n : Nat} (hn : n < 32) : 2 ^ n < 4294967296 := by
  have : (2 : Nat) ^ n < 2 ^ 32 := Nat.pow_lt_pow_right (by omega) hn
  simpa using this

theorem only_any (n : Nat) (hn : n < 32) (w : World) : Calls Tryz.prog 108 #[.int .i64 (n : Int)] w fun e w' => e = .returned (.int .u32 ((2 ^ n : Nat) : Int)) ∧ w' = w := by
  have hp := pow_lt32 hn
  go_enter Tryz.func108, Tryz.ntmps108
  go_wp2
  go_ret
  refine ⟨ret_int ?_, rfl⟩
  have h2 : ((2 ^ n : Nat) : Int) = 2 ^ n := by push_cast; rfl
  rw [← h2]
  generalize 2 ^ n = x at hp
  omega

theorem bit_and (s n : Nat) (hs : s < 4294967296) (hn : n < 32) : (bits .and .u32 (s : Int) (2 ^ n) != 0) = s.testBit n := by
  have : ((2 ^ n : Nat) : Int) = 2 ^ n := by push_cast; rfl
  rw [← this, u32_and_nat s (2 ^ n) hs (pow_lt32 hn), ← has_eq]
  rw [bne]
  generalize ((s &&& 2 ^ n : Nat) : Int) = x
  by_cases h : x = 0 <;> simp [h]

theorem has_any (s n : Nat) (hs : s < 4294967296) (hn : n < 32) (w : World) : Calls Tryz.prog 107 #[.int .u32 (s : Int), .int .i64 (n : Int)] w fun e w' => e = .returned (.bool (s.testBit n)) ∧ w' = w := by
  go_enter Tryz.func107, Tryz.ntmps107
  go_wp2_with (go_at_call 108; refine (only_any n hn _).mono ?_; rintro e w' ⟨rfl, rfl⟩)
  go_ret
  exact ⟨ret_bool (bit_and s n hs hn), rfl⟩

/-- How many of the eight bits from 8 k on are there. -/
def c8 (s k : Nat) : Nat := ((List.range 8).filter fun i => s.testBit (8 * k + i)).length

theorem cnt_c8 (s : Nat) : cnt s = c8 s 3 + c8 s 2 + c8 s 1 + c8 s 0 := by
  have e : List.range 32 = List.range 8 ++ ((List.range 8).map fun i => 8 * 1 + i) ++ ((List.range 8).map fun i => 8 * 2 + i) ++ ((List.range 8).map fun i => 8 * 3 + i) := by decide
  unfold cnt lst lstk c8
  rw [e]
  simp only [List.filter_append, List.length_append, List.filter_map, List.length_map, Function.comp_def, Nat.mul_zero, Nat.zero_add]
  show ((List.range 8).filter (fun i => s.testBit i)).length + _ + _ + _ = _
  omega

theorem pop8_c : ∀ n : Fin 256, Lib.pop8 (n.val : Int) = (((List.range 8).filter fun i => n.val.testBit i).length : Int) := by decide +kernel

theorem c8_eq (s k x : Nat) (hx : x = (s >>> (8 * k)) &&& 255) : Lib.pop8 (x : Int) = (c8 s k : Int) := by
  have hl : x < 256 := by rw [hx]; exact Nat.lt_of_le_of_lt Nat.and_le_right (by omega)
  have h := pop8_c ⟨x, hl⟩
  rw [h]
  unfold c8
  congr 2
  apply List.filter_congr
  intro i hi
  have hi8 : i < 8 := by simpa using hi
  simp only [hx, Nat.testBit_and, Nat.testBit_shiftRight]
  have : Nat.testBit 255 i = true := by
    have : ∀ i : Fin 8, Nat.testBit 255 i.val = true := by decide
    exact this ⟨i, hi8⟩
  simp [this]

theorem fold_tab : (⟨(([0, 1, 1, 2, 1, 2, 2, 3, 1, 2, 2, 3, 2, 3, 3, 4, 1, 2, 2, 3, 2, 3, 3, 4, 2, 3, 3, 4, 3, 4, 4, 5, 1, 2, 2, 3, 2, 3, 3, 4, 2, 3, 3, 4, 3, 4, 4, 5, 2, 3, 3, 4, 3, 4, 4, 5, 3, 4, 4, 5, 4, 5, 5, 6].append [1, 2, 2, 3, 2, 3, 3, 4, 2, 3, 3, 4, 3, 4, 4, 5, 2, 3, 3, 4, 3, 4, 4, 5, 3, 4, 4, 5, 4, 5, 5, 6, 2, 3, 3, 4, 3, 4, 4, 5, 3, 4, 4, 5, 4, 5, 5, 6, 3, 4, 4, 5, 4, 5, 5, 6, 4, 5, 5, 6, 5, 6, 6, 7]).append ([1, 2, 2, 3, 2, 3, 3, 4, 2, 3, 3, 4, 3, 4, 4, 5, 2, 3, 3, 4, 3, 4, 4, 5, 3, 4, 4, 5, 4, 5, 5, 6, 2, 3, 3, 4, 3, 4, 4, 5, 3, 4, 4, 5, 4, 5, 5, 6, 3, 4, 4, 5, 4, 5, 5, 6, 4, 5, 5, 6, 5, 6, 6, 7].append [2, 3, 3, 4, 3, 4, 4, 5, 3, 4, 4, 5, 4, 5, 5, 6, 3, 4, 4, 5, 4, 5, 5, 6, 4, 5, 5, 6, 5, 6, 6, 7, 3, 4, 4, 5, 4, 5, 5, 6, 4, 5, 5, 6, 5, 6, 6, 7, 4, 5, 5, 6, 5, 6, 6, 7, 5, 6, 6, 7, 6, 7, 7, 8])).toArray⟩ : ByteArray) = Lib.pop8tab := by decide +kernel

theorem c8_le (s k : Nat) : c8 s k ≤ 8 := by
  have := List.length_filter_le (fun i => s.testBit (8 * k + i)) (List.range 8)
  simpa [c8] using this

theorem ones_any (s : Nat) (hs : s < 4294967296) (w : World) : Calls Tryz.prog 106 #[.int .u32 (s : Int)] w fun e w' => e = .returned (.int .i64 (cnt s : Int)) ∧ Below w.heap.size w w' := by
  have sh : ∀ k d : Nat, 2 ^ (8 * k) = d → (s : Int) / (d : Int) = ((s >>> (8 * k) : Nat) : Int) := by
    intro k d hd
    rw [Nat.shiftRight_eq_div_pow, hd, Int.natCast_ediv]
  have hle : ∀ k, s >>> (8 * k) < 4294967296 := fun k => by rw [Nat.shiftRight_eq_div_pow]; exact Nat.lt_of_le_of_lt (Nat.div_le_self _ _) hs
  have b1 : bits .and .u32 ((s : Int) / 65536) 255 = (((s >>> (8 * 2)) &&& 255 : Nat) : Int) := by
    have e := sh 2 65536 (by decide)
    refine (congrArg (fun x => bits .and .u32 x 255) e).trans (u32_and_nat _ 255 (hle 2) (by omega))
  have b2 : bits .and .u32 ((s : Int) / 256) 255 = (((s >>> (8 * 1)) &&& 255 : Nat) : Int) := by
    have e := sh 1 256 (by decide)
    refine (congrArg (fun x => bits .and .u32 x 255) e).trans (u32_and_nat _ 255 (hle 1) (by omega))
  have b3 : bits .and .u32 (s : Int) 255 = (((s >>> (8 * 0)) &&& 255 : Nat) : Int) := u32_and_nat _ 255 hs (by omega)
  have b0 : (s : Int) / 16777216 = (((s >>> (8 * 3)) &&& 255 : Nat) : Int) := by
    have l8 : s >>> (8 * 3) < 2 ^ 8 := by rw [Nat.shiftRight_eq_div_pow]; omega
    have l9 : s >>> (8 * 3) &&& 255 = s >>> (8 * 3) := Nat.and_two_pow_sub_one_of_lt_two_pow (n := 8) l8
    rw [l9, Nat.shiftRight_eq_div_pow]
    omega
  have r : ∀ k, (((s >>> (8 * k)) &&& 255 : Nat) : Int) ≤ 255 := fun k => Int.ofNat_le.2 Nat.and_le_right
  have r1 : 0 ≤ bits .and .u32 ((s : Int) / 65536) 255 := by rw [b1]; omega
  have q1 : bits .and .u32 ((s : Int) / 65536) 255 ≤ 255 := by rw [b1]; exact r 2
  have r2 : 0 ≤ bits .and .u32 ((s : Int) / 256) 255 := by rw [b2]; omega
  have q2 : bits .and .u32 ((s : Int) / 256) 255 ≤ 255 := by rw [b2]; exact r 1
  have r3 : 0 ≤ bits .and .u32 (s : Int) 255 := by rw [b3]; omega
  have q3 : bits .and .u32 (s : Int) 255 ≤ 255 := by rw [b3]; exact r 0
  have r0 : 0 ≤ (s : Int) / 16777216 := by omega
  have q0 : (s : Int) / 16777216 ≤ 255 := by omega
  replace b0 := hid b0; replace b1 := hid b1; replace b2 := hid b2; replace b3 := hid b3
  go_enter Tryz.func106, Tryz.ntmps106
  go_wp2
  simp only [fold_tab]
  go_quiet (fail)
  go_wp2
  go_ret
  refine ⟨ret_int ?_, ⟨rfl, rfl, rfl, Nat.le_refl _, fun _ _ => rfl⟩⟩
  have p0 := c8_eq s 3 _ rfl
  have p1 := c8_eq s 2 _ rfl
  have p2 := c8_eq s 1 _ rfl
  have p3 := c8_eq s 0 _ rfl
  rw [← b0.out] at p0
  rw [← b1.out] at p1
  rw [← b2.out] at p2
  rw [← b3.out] at p3
  have l0 := c8_le s 0
  have l1 := c8_le s 1
  have l2 := c8_le s 2
  have l3 := c8_le s 3
  have ce := cnt_c8 s
  rw [show Lib.pop8 ((s : Int) / 16777216) = (c8 s 3 : Int) from p0, p1, p2, p3]
  omega

theorem count_any (s : Nat) (hs : s < 4294967296) (w : World) : Calls Tryz.prog 98 #[.int .u32 (s : Int)] w fun e w' => e = .returned (.int .i64 (cnt s : Int)) ∧ Below w.heap.size w w' := by
  go_enter Tryz.func98, Tryz.ntmps98
  go_wp2_with (go_at_call 106; refine (ones_any s hs _).mono ?_; rintro e w1 ⟨rfl, hb1⟩)
  go_ret
  exact ⟨rfl, hb1⟩

end Go.Proofs.YtflapjehkgefdaaGreat.Nd
