/- SetTells: sets are made, listed, counted and cut down as the document defines. -/
import Derived.Test.YtebdlcgegdobkaaDoorRef2
namespace Go.Proofs.YtebdlcgegdobkaaDoor
open Go.RowKit

set_option maxHeartbeats 1600000 in
theorem tells_any (a : Option Addr) (n c : Nat) (Z : List Int) (s t : Nat) (hs : s < 4294967296) (ht : t < 4294967296) (w : World) (hn : Z.length = n) (hl : n * 8 ≤ 140737488355328) (hat : CAt w a (Z.map I)) :
    Calls Tryd.prog 3 #[.slice a n c, .int .u32 (s : Int), .int .u32 (t : Int)] w fun e w' => e = .returned (.bool true) ∧ Below w.heap.size w w' := by
  have hcs := cnt_le s
  have hlen : (L2 (lst s)).length = cnt s := by simp [L2, cnt]
  have kc := copyints_any a n c Z w hn hl hat
  replace hn := hid hn
  replace hat := hid hat
  go_enter Tryd.func3, Tryd.ntmps3
  go_wp2_with fail
  refine kc.mono ?_
  rintro e w1 ⟨v1, rfl, ho1, hb1⟩
  obtain ⟨a1, c1, rfl, hc1⟩ := owns_form ho1
  have at1 := owns_cat ho1
  rw [hn.out]
  have k1 := of_any a1 n c1 Z w1 hn.out (by omega) at1
  have k2 := ofr_any a n c Z w1 hn.out (by omega) (hat.out.below hb1)
  have k3 := sameints_any a1 a n c1 c Z w1 hn.out (by omega) at1 (hat.out.below hb1)
  replace ho1 := hid ho1
  replace hc1 := hid hc1
  replace at1 := hid at1
  generalize (ofP Z).1 = S at *
  generalize (ofP Z).2 = E at *
  go_wp2_with fail
  refine k1.mono ?_
  rintro e w2 ⟨rfl, rfl⟩
  go_wp2_with fail
  refine k2.mono ?_
  rintro e w3 ⟨rfl, rfl⟩
  go_wp2_with fail
  refine k3.mono ?_
  rintro e w4 ⟨rfl, hb4⟩
  have B4 := bnext hb1 hb4
  go_wp2_with fail
  refine (list_any s hs _).mono ?_
  rintro e w5 ⟨v5, rfl, ho5, hb5⟩
  have B5 := bnext B4 hb5
  go_wp2_with fail
  refine (listr_any s hs _).mono ?_
  rintro e w6 ⟨v6, rfl, ho6, hb6⟩
  have B6 := bnext B5 hb6
  replace ho5 := owns_below ho5 hb6
  obtain ⟨a5, c5, rfl, hc5⟩ := owns_form ho5
  obtain ⟨a6, c6, rfl, hc6⟩ := owns_form ho6
  have k4 := sameints_any a5 a6 (L2 (lst s)).length c5 c6 _ w6 rfl (by omega) (owns_cat ho5) (owns_cat ho6)
  rw [hlen] at k4
  rw [hlen]
  clear ho5 ho6 hc5 hc6
  go_wp2_with fail
  refine k4.mono ?_
  rintro e w7 ⟨rfl, hb7⟩
  have B7 := bnext B6 hb7
  go_wp2_with fail
  refine (count_any s hs _).mono ?_
  rintro e w8 ⟨rfl, hb8⟩
  have B8 := bnext B7 hb8
  go_wp2_with fail
  refine (listr_any s hs _).mono ?_
  rintro e w9 ⟨v9, rfl, ho9, hb9⟩
  have B9 := bnext B8 hb9
  obtain ⟨a9, c9, rfl, hc9⟩ := owns_form ho9
  rw [hlen] at hc9 ⊢
  clear ho9 hc9
  go_wp2_with fail
  refine (within_any s t hs ht _).mono ?_
  rintro e w10 ⟨rfl, rfl⟩
  go_wp2_with fail
  refine (withinr_any s t hs ht _).mono ?_
  rintro e w11 ⟨rfl, rfl⟩
  generalize decide (s &&& (4294967295 - t) = 0) = wi at *
  clear kc k1 k2 k3 k4 hlen
  go_wp2_with fail
  go_loopw [12] (fun i wr => ∃ j : Nat, j ≤ 35 ∧ i = .int .i64 ((j : Int) - 1) ∧ Below w.heap.size w wr) (fun i _ => 40 - (intOf i + 1).toNat)
  case atStart => exact ⟨0, Nat.zero_le _, rfl, B9⟩
  case round =>
    obtain ⟨j, hj, rfl, hb⟩ := hrel
    by_cases hlt : j < 35
    · have d : decide ((j : Int) - 1 ≤ 33) = true := by simp; omega
      have kf := fun w => first_any s ((j : Int) - 1) hs w
      have kg := fun w => firstr_any s ((j : Int) - 1) hs w
      generalize firstP s ((j : Int) - 1) = F at *
      obtain ⟨F1, F2⟩ := F
      go_wp2_with fail
      refine (kf _).mono ?_
      rintro e w12 ⟨rfl, hb12⟩
      go_wp2_with fail
      refine (kg _).mono ?_
      rintro e w13 ⟨rfl, hb13⟩
      have B13 := bnext (bnext hb hb12) hb13
      go_wp2_with fail
      go_roundw
      case rel => exact ⟨j + 1, by omega, by go_num, B13⟩
      case measure => simp [intOf]; omega
    · have hje : j = 35 := by omega
      subst hje
      go_wp2_with fail
      refine (awake_any _).mono ?_
      rintro e w14 ⟨rfl, hb14⟩
      go_wp2
      go_ret
      exact ⟨rfl, bnext hb hb14⟩

end Go.Proofs.YtebdlcgegdobkaaDoor
