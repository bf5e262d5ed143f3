/- gather: which nodes of a set a closure says yes of. -/
import Derived.Test.YtilncacmkfohdaaGreatPfPrf
namespace Go.Proofs.YtilncacmkfohdaaGreat.Pf
open Go.RowKit
open Nd (ofN cnt lst lowk)

/-- The nodes of s below k of which b holds. -/
def gset (s : Nat) (b : Nat → Bool) (k : Nat) : Nat := ofN ((List.range k).filter fun i => s.testBit i && b i)

theorem gset_zero (s : Nat) (b : Nat → Bool) : gset s b 0 = 0 := by simp [gset, ofN]
theorem gset_succ (s : Nat) (b : Nat → Bool) (k : Nat) : gset s b (k + 1) = if s.testBit k && b k then gset s b k ||| 2 ^ k else gset s b k := by
  unfold gset
  rw [List.range_succ, List.filter_append]
  by_cases h : (s.testBit k && b k) = true
  · rw [if_pos h, List.filter_cons_of_pos (p := fun i => s.testBit i && b i) h, List.filter_nil, Nd.ofN_append]
  · rw [if_neg h, List.filter_cons_of_neg (p := fun i => s.testBit i && b i) h, List.filter_nil, List.append_nil]
theorem gset_yes {s : Nat} {b : Nat → Bool} {k : Nat} (h1 : s.testBit k = true) (h2 : b k = true) : gset s b (k + 1) = gset s b k ||| 2 ^ k := by rw [gset_succ, h1, h2]; rfl
theorem gset_no1 {s : Nat} {b : Nat → Bool} {k : Nat} (h1 : s.testBit k = false) : gset s b (k + 1) = gset s b k := by rw [gset_succ, h1]; rfl
theorem gset_no2 {s : Nat} {b : Nat → Bool} {k : Nat} (h2 : b k = false) : gset s b (k + 1) = gset s b k := by rw [gset_succ, h2, Bool.and_false]; rfl
theorem gset_lt (s : Nat) (b : Nat → Bool) {k : Nat} (hk : k ≤ 32) : gset s b k < 4294967296 := Nd.ofN_lt fun n hn => by
  have := (List.mem_filter.1 hn).1
  rw [List.mem_range] at this; omega
theorem gset_bit (s : Nat) (b : Nat → Bool) (k i : Nat) : (gset s b k).testBit i = (decide (i < k) && (s.testBit i && b i)) := by
  unfold gset
  rw [Nd.ofN_bit]
  by_cases h : i < k
  · simp [h]
  · simp [h]

set_option maxRecDepth 100000 in
set_option maxHeartbeats 1000000 in
theorem gather46 (n s : Nat) (b : Nat → Bool) (g0 g1 g2 : Nat) (R : Nat → World → Prop) (w : World) (hn : n ≤ 32) (hs : s < 4294967296) (hR0 : R 0 w) (hskip : ∀ k w', k < n → s.testBit k = false → R k w' → R (k + 1) w')
    (hstep : ∀ k w', k < n → s.testBit k = true → R k w' → Calls Tryz.prog 25 #[.int .i64 (k : Int), ptr g0, ptr g1, ptr g2] w' fun e w2 => e = .returned (.bool (b k)) ∧ R (k + 1) w2) :
    Calls Tryz.prog 24 #[.int .i64 (n : Int), .int .u32 (s : Int), .func (.func 25) #[] #[ptr g0, ptr g1, ptr g2]] w fun e w' => e = .returned (.int .u32 (gset s b n : Int)) ∧ R n w' := by
  replace hskip := hid hskip
  replace hstep := hid hstep
  go_enter Tryz.func24, Tryz.ntmps24
  go_wp2_with fail
  go_loopw [7, 10] (fun v i wr => ∃ j : Nat, j ≤ n ∧ v = .int .u32 (gset s b j : Int) ∧ i = .int .i64 (j : Int) ∧ Hid (R j wr)) (fun _ i _ => n - (intOf i).toNat)
  case atStart => exact ⟨0, Nat.zero_le _, by rw [gset_zero]; rfl, rfl, hid hR0⟩
  case round =>
    obtain ⟨j, hj, rfl, rfl, hR⟩ := hrel
    by_cases hlt : j < n
    · have hj32 : j < 32 := by omega
      have hll := gset_lt s b (k := j) (by omega)
      have ho := Nd.or_pow (gset s b j) j hll hj32
      cases hbit : s.testBit j
      · have hse := hid (gset_no1 (b := b) hbit)
        have hR2 := hid (hskip.out j _ hlt hbit hR.out)
        generalize gset s b j = S at *
        go_wp2_with fail
        refine (phas_any s j hs hj32 _).mono ?_
        rintro e w2 ⟨rfl, rfl⟩
        rw [hbit]
        go_wp2_with fail
        go_roundw
        case rel => exact ⟨j + 1, by omega, by rw [hse.out], by go_num, hR2⟩
        case measure => simp [intOf]; omega
      · have kS := fun w' h => hstep.out j w' hlt hbit h
        cases hb : b j
        · rw [hb] at kS
          have hse := hid (gset_no2 (s := s) hb)
          generalize gset s b j = S at *
          go_wp2_with fail
          refine (phas_any s j hs hj32 _).mono ?_
          rintro e w2 ⟨rfl, rfl⟩
          rw [hbit]
          go_wp2_with fail
          refine (kS _ hR.out).mono ?_
          rintro e w3 ⟨rfl, hR3⟩
          replace hR3 := hid hR3
          go_wp2_with fail
          go_roundw
          case rel => exact ⟨j + 1, by omega, by rw [hse.out], by go_num, hR3⟩
          case measure => simp [intOf]; omega
        · rw [hb] at kS
          have hse := hid (gset_yes hbit hb)
          generalize gset s b j = S at *
          go_wp2_with fail
          refine (phas_any s j hs hj32 _).mono ?_
          rintro e w2 ⟨rfl, rfl⟩
          rw [hbit]
          go_wp2_with fail
          refine (kS _ hR.out).mono ?_
          rintro e w3 ⟨rfl, hR3⟩
          replace hR3 := hid hR3
          go_wp2_with fail
          refine (ponly_any j hj32 _).mono ?_
          rintro e w4 ⟨rfl, rfl⟩
          go_wp2_with fail
          go_roundw
          case rel => exact ⟨j + 1, by omega, by rw [hse.out], by go_num, hR3⟩
          case measure => simp [intOf]; omega
    · have hje : j = n := by omega
      subst hje
      go_wp2
      go_ret
      exact ⟨rfl, hR.out⟩

end Go.Proofs.YtilncacmkfohdaaGreat.Pf
