/- How many nodes a set has: nothing but draws. -/
import Derived.Test.YtomdghodbkhkaaaGreatDoorNdOps
namespace Go.Proofs.YtomdghodbkhkaaaGreatDoor.Nd
open Go.RowKit

theorem ones_q (s : Nat) (hs : s < 4294967296) (w : World) : Calls Tryz.prog 111 #[.int .u32 (s : Int)] w fun e w' => e = .returned (.int .i64 (cnt s : Int)) ∧ ∃ m, w' = w.drewN m := by
  have sh : ∀ k d : Nat, 2 ^ (8 * k) = d → (s : Int) / (d : Int) = ((s >>> (8 * k) : Nat) : Int) := by
    intro k d hd
    rw [Nat.shiftRight_eq_div_pow, hd, Int.natCast_ediv]
  have hle : ∀ k, s >>> (8 * k) < 4294967296 := fun k => by rw [Nat.shiftRight_eq_div_pow]; exact Nat.lt_of_le_of_lt (Nat.div_le_self _ _) hs
  have b1 : bits .and .u32 ((s : Int) / 65536) 255 = (((s >>> (8 * 2)) &&& 255 : Nat) : Int) := by
    have e := sh 2 65536 (by decide)
    refine (congrArg (fun x => bits .and .u32 x 255) e).trans (u32_and_nat _ 255 (hle 2) (by omega))
  have b2 : bits .and .u32 ((s : Int) / 256) 255 = (((s >>> (8 * 1)) &&& 255 : Nat) : Int) := by
    have e := sh 1 256 (by decide)
    refine (congrArg (fun x => bits .and .u32 x 255) e).trans (u32_and_nat _ 255 (hle 1) (by omega))
  have b3 : bits .and .u32 (s : Int) 255 = (((s >>> (8 * 0)) &&& 255 : Nat) : Int) := u32_and_nat _ 255 hs (by omega)
  have b0 : (s : Int) / 16777216 = (((s >>> (8 * 3)) &&& 255 : Nat) : Int) := by
    have l8 : s >>> (8 * 3) < 2 ^ 8 := by rw [Nat.shiftRight_eq_div_pow]; omega
    have l9 : s >>> (8 * 3) &&& 255 = s >>> (8 * 3) := Nat.and_two_pow_sub_one_of_lt_two_pow (n := 8) l8
    rw [l9, Nat.shiftRight_eq_div_pow]
    omega
  have r : ∀ k, (((s >>> (8 * k)) &&& 255 : Nat) : Int) ≤ 255 := fun k => Int.ofNat_le.2 Nat.and_le_right
  have r1 : 0 ≤ bits .and .u32 ((s : Int) / 65536) 255 := by rw [b1]; omega
  have q1 : bits .and .u32 ((s : Int) / 65536) 255 ≤ 255 := by rw [b1]; exact r 2
  have r2 : 0 ≤ bits .and .u32 ((s : Int) / 256) 255 := by rw [b2]; omega
  have q2 : bits .and .u32 ((s : Int) / 256) 255 ≤ 255 := by rw [b2]; exact r 1
  have r3 : 0 ≤ bits .and .u32 (s : Int) 255 := by rw [b3]; omega
  have q3 : bits .and .u32 (s : Int) 255 ≤ 255 := by rw [b3]; exact r 0
  have r0 : 0 ≤ (s : Int) / 16777216 := by omega
  have q0 : (s : Int) / 16777216 ≤ 255 := by omega
  replace b0 := hid b0; replace b1 := hid b1; replace b2 := hid b2; replace b3 := hid b3
  go_enter Tryz.func111, Tryz.ntmps111
  go_wp2
  simp only [fold_tab]
  go_quiet (fail)
  go_wp2
  go_ret
  refine ⟨ret_int ?_, nq, rfl⟩
  have p0 := c8_eq s 3 _ rfl
  have p1 := c8_eq s 2 _ rfl
  have p2 := c8_eq s 1 _ rfl
  have p3 := c8_eq s 0 _ rfl
  rw [← b0.out] at p0
  rw [← b1.out] at p1
  rw [← b2.out] at p2
  rw [← b3.out] at p3
  have l0 := c8_le s 0
  have l1 := c8_le s 1
  have l2 := c8_le s 2
  have l3 := c8_le s 3
  have ce := cnt_c8 s
  rw [show Lib.pop8 ((s : Int) / 16777216) = (c8 s 3 : Int) from p0, p1, p2, p3]
  omega

theorem count_q (s : Nat) (hs : s < 4294967296) (w : World) : Calls Tryz.prog 100 #[.int .u32 (s : Int)] w fun e w' => e = .returned (.int .i64 (cnt s : Int)) ∧ ∃ m, w' = w.drewN m := by
  go_enter Tryz.func100, Tryz.ntmps100
  go_wp2_with (go_at_call 111; refine (ones_q s hs _).mono ?_; rintro e w1 ⟨rfl, hb1⟩)
  go_ret
  exact ⟨rfl, hb1⟩


end Go.Proofs.YtomdghodbkhkaaaGreatDoor.Nd
