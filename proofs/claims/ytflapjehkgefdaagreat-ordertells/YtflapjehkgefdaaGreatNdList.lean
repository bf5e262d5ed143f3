/- nodeset.List, and the document's Within. -/
import Derived.Test.YtflapjehkgefdaaGreatNdRef
namespace Go.Proofs.YtflapjehkgefdaaGreat.Nd
open Go.RowKit

theorem bit_not (x : Nat) (hx : x < 4294967296) (i : Nat) (hi : i < 32) : (4294967295 - x).testBit i = !x.testBit i := by
  have := Nat.testBit_two_pow_sub_succ (x := x) (n := 32) (by simpa using hx) i
  rw [show (2 : Nat) ^ 32 - (x + 1) = 4294967295 - x by omega] at this
  rw [this]; simp [hi]

set_option maxHeartbeats 400000 in
set_option maxRecDepth 100000 in
theorem list_any (s : Nat) (hs : s < 4294967296) (w : World) :
    Calls Tryz.prog 105 #[.int .u32 (s : Int)] w fun e w' => ∃ v, e = .returned v ∧ NOwn w' w.heap.size v (L2 (lst s)) ∧ Below w.heap.size w w' := by
  obtain ⟨i0, hi0, hz0, hz1, hz2⟩ := info_parts info3
  go_enter Tryz.func105, Tryz.ntmps105
  go_wp2_with fail
  go_loopw [3, 5] (fun v i wr => ∃ j : Nat, j ≤ 32 ∧ i = .int .i64 (j : Int) ∧ NOwn wr w.heap.size v (L2 (lstk s j)) ∧ Below w.heap.size w wr) (fun _ i _ => 32 - (intOf i).toNat)
  case atStart => exact ⟨0, Nat.zero_le _, rfl, by unfold NOwn; exact World.ownsRow_nil _ _ _ _, Below.refl _ _⟩
  case round =>
    obtain ⟨j, hj, rfl, hv, hb⟩ := hrel
    by_cases hlt : j < 32
    · have hse := lstk_succ s j
      have hlen := lstk_len s j
      cases hbit : s.testBit j
      · rw [hbit] at hse
        replace hse := hid hse
        replace hv := hid hv
        go_wp2_with (go_at_call 107; refine (has_any s j hs hlt _).mono ?_; rintro e w1 ⟨rfl, rfl⟩; rw [hbit])
        go_roundw
        case rel => exact ⟨j + 1, by omega, by go_num, by rw [hse.out]; exact hv.out, hb⟩
        case measure => simp [intOf]; omega
      · rw [hbit] at hse
        replace hse := hid hse
        replace hv := hid hv
        have hl2 : (L2 (lstk s j)).length ≤ 32 := by simp [L2]; omega
        go_wp2_with (first | (go_at_call 107; refine (has_any s j hs hlt _).mono ?_; rintro e w1 ⟨rfl, rfl⟩; rw [hbit]) | (at_builtin; refine Hid.out ?_))
        have bl := below_lit w1 (.cells #[.int .i64 (j : Int)] 3)
        have hv2 := owns_below hv.out bl
        have B1 := bnext hb bl
        refine wpList_cat _ rfl (.tmp 11) (.tmp 13) 22 rfl w.heap.size 3 i0 _ 1 8 Tryz.underlying22 hi0 hz0 hz1 hz2 rfl (by omega) _ _ _ rfl hv2 (some ⟨w1.heap.size, 0, none⟩) 1 _ [.int .i64 (j : Int)] rfl rfl (cat_lit _ _ _ _ rfl) (int_one _) (by unfold maxLen; omega) (by omega) B1.size ?_
        intro v3 w3 hr3 hg3 hv3
        go_wp2_with fail
        go_roundw
        case rel =>
          refine ⟨j + 1, by omega, by go_num, ?_, ?_⟩
          · rw [hse.out]
            unfold NOwn
            simpa [L2, I] using hr3
          · exact B1.grown hg3 B1.size (fun k hk => (hv2.lt k hk).1)
        case measure => simp [intOf]; omega
    · have hje : j = 32 := by omega
      subst hje
      go_wp2
      go_ret
      exact ⟨_, rfl, hv, hb⟩


/-- b has all of a's nodes below k. -/
def InTo (a b k : Nat) : Prop := ∀ i, i < k → a.testBit i = true → b.testBit i = true

theorem in_all {a b : Nat} (ha : a < 4294967296) (hb : b < 4294967296) : (a &&& (4294967295 - b) = 0) ↔ InTo a b 32 := by
  constructor
  · intro h i hi h1
    have := congrArg (fun x => x.testBit i) h
    simp only [Nat.testBit_and, bit_not b hb i hi, Nat.zero_testBit, h1, Bool.true_and] at this
    simpa using this
  · intro h
    refine ext32 (Nat.lt_of_le_of_lt Nat.and_le_left ha) (by omega) fun i hi => ?_
    rw [Nat.testBit_and, bit_not b hb i hi, Nat.zero_testBit]
    cases h1 : a.testBit i
    · rfl
    · rw [h i hi h1]; rfl

set_option maxHeartbeats 400000 in
set_option maxRecDepth 100000 in
theorem withinr_any (a b : Nat) (ha : a < 4294967296) (hb : b < 4294967296) (w : World) :
    Calls Tryz.prog 45 #[.int .u32 (a : Int), .int .u32 (b : Int)] w fun e w' => e = .returned (.bool (decide (a &&& (4294967295 - b) = 0))) ∧ w' = w := by
  have hall := hid (in_all ha hb)
  go_enter Tryz.func45, Tryz.ntmps45
  go_wp2_with fail
  go_loopw [5] (fun i wr => ∃ j : Nat, j ≤ 32 ∧ i = .int .i64 (j : Int) ∧ Hid (InTo a b j) ∧ wr = w) (fun i _ => 32 - (intOf i).toNat)
  case atStart => exact ⟨0, Nat.zero_le _, rfl, hid (fun i hi => absurd hi (by omega)), rfl⟩
  case round =>
    obtain ⟨j, hj, rfl, hin, rfl⟩ := hrel
    by_cases hlt : j < 32
    · have kA := fun w => hasr_any a (j : Int) ha (by omega) (by omega) w
      rw [hasR_nat a j hlt] at kA
      have kB := fun w => hasr_any b (j : Int) hb (by omega) (by omega) w
      rw [hasR_nat b j hlt] at kB
      cases h1 : a.testBit j
      · have hin2 := hid (show InTo a b (j + 1) from fun i hi h => by
          rcases Nat.lt_or_ge i j with h3 | h3
          · exact hin.out i h3 h
          · have : i = j := by omega
            subst this; rw [h1] at h; cases h)
        rw [h1] at kA
        go_wp2_with fail
        refine (kA _).mono ?_
        rintro e w1 ⟨rfl, rfl⟩
        go_wp2_with fail
        go_roundw
        case rel => exact ⟨j + 1, by omega, by go_num, hin2, trivial⟩
        case measure => simp [intOf]; omega
      · rw [h1] at kA
        cases h2 : b.testBit j
        · have hf := hid (show decide (a &&& (4294967295 - b) = 0) = false by
            simp
            intro h
            have := hall.out.1 h j hlt h1
            rw [h2] at this; cases this)
          rw [h2] at kB
          go_wp2_with fail
          refine (kA _).mono ?_
          rintro e w1 ⟨rfl, rfl⟩
          go_wp2_with fail
          refine (kB _).mono ?_
          rintro e w2 ⟨rfl, rfl⟩
          go_wp2
          go_ret
          rw [hf.out]
          exact ⟨rfl, rfl⟩
        · have hin2 := hid (show InTo a b (j + 1) from fun i hi h => by
            rcases Nat.lt_or_ge i j with h3 | h3
            · exact hin.out i h3 h
            · have : i = j := by omega
              subst this; exact h2)
          rw [h2] at kB
          go_wp2_with fail
          refine (kA _).mono ?_
          rintro e w1 ⟨rfl, rfl⟩
          go_wp2_with fail
          refine (kB _).mono ?_
          rintro e w2 ⟨rfl, rfl⟩
          go_wp2_with fail
          go_roundw
          case rel => exact ⟨j + 1, by omega, by go_num, hin2, trivial⟩
          case measure => simp [intOf]; omega
    · have hje : j = 32 := by omega
      subst hje
      have hf := hid (show decide (a &&& (4294967295 - b) = 0) = true by simpa using hall.out.2 hin.out)
      go_wp2
      go_ret
      rw [hf.out]
      exact ⟨rfl, rfl⟩


end Go.Proofs.YtflapjehkgefdaaGreat.Nd
