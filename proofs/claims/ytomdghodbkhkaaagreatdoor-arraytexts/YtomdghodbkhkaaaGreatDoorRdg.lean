/- The document's digits. -/
import Derived.Test.YtomdghodbkhkaaaGreatDoorNum
import Derived.Laws.IdiomStrings
namespace Go.Proofs.YtomdghodbkhkaaaGreatDoor
open Go.RowKit
set_option linter.unusedVariables false
set_option linter.unusedSimpArgs false

theorem dig_small {n : Nat} (h : n < 10) : dig n = [UInt8.ofNat (48 + n)] := by unfold dig; rw [if_pos h]
theorem dig_more {n : Nat} (h1 : 10 ≤ n) (h : n ≤ 9999) : dig n = dig (n / 10) ++ [UInt8.ofNat (48 + n % 10)] := by
  unfold dig
  rw [if_neg (by omega)]
  by_cases h2 : n < 100
  · rw [if_pos h2, if_pos (by omega)]; rfl
  · rw [if_neg h2]
    by_cases h3 : n < 1000
    · rw [if_pos h3, if_neg (by omega), if_pos (by omega)]; rfl
    · rw [if_neg h3, if_neg (by omega), if_neg (by omega), if_pos (by omega)]; rfl
/-- What is told of n, once s is told and m is left. -/
def dgL (m : Nat) (s : List UInt8) : List UInt8 := if m = 0 ∧ s ≠ [] then s else dig m ++ s
theorem dgL_step {m : Nat} {s : List UInt8} (h : m ≤ 9999) (h2 : 0 < m ∨ s = []) : dgL m s = dgL (m / 10) (UInt8.ofNat (48 + m % 10) :: s) := by
  unfold dgL
  rw [if_neg (by rintro ⟨h3, h4⟩; rcases h2 with h2 | h2; omega; exact h4 h2)]
  by_cases h10 : m < 10
  · rw [if_pos ⟨by omega, by simp⟩, dig_small h10, show m % 10 = m by omega]; rfl
  · rw [if_neg (by omega), dig_more (by omega) h, List.append_assoc]; rfl

/-- 'string([]byte{b})'. -/
theorem one_byte (w : World) (b : UInt8) : (convert 82 9 (.slice (some ⟨w.heap.size, 0, none⟩) 1 1)).run Tryz.prog (w.alloc (.cells #[.int .u8 (b.toNat : Int)] 5)) = .ok (.string ⟨#[b]⟩) (w.alloc (.cells #[.int .u8 (b.toNat : Int)] 5)) :=
  run_convert_bytes_back (P := Tryz.prog) _ 82 9 5 ⟨w.heap.size, 0, none⟩ 1 [b] Tryz.underlying82 Tryz.underlying5 Tryz.underlying9 (fun j hj => by
    have hj0 : j = 0 := by simpa using hj
    subst hj0
    exact lit_cell w 5 #[.int .u8 (b.toNat : Int)] 0 _ rfl)

set_option maxRecDepth 100000 in
set_option maxHeartbeats 1600000 in
theorem digits_any (n : Nat) (hn : n ≤ 9999) (w : World) : Calls Tryz.prog 28 #[.int .i64 (n : Int)] w fun e w' => e = .returned (Str (dig n)) ∧ Below w.heap.size w w' := by
  go_enter Tryz.func28, Tryz.ntmps28
  go_wp2_with fail
  go_loopw [0, 3] (fun i v wr => ∃ (m : Nat) (s : List UInt8), m ≤ 9999 ∧ s.length + m ≤ 10000 ∧ i = .int .i64 (m : Int) ∧ v = Str s ∧ Hid (dig n = dgL m s) ∧ Hid (Below w.heap.size w wr)) (fun i v _ => 2 * (intOf i).toNat + (match v with | .string p => if p.size = 0 then 1 else 0 | _ => 0))
  case atStart => exact ⟨n, [], hn, by simp; omega, rfl, rfl, hid (by unfold dgL; rw [if_neg (by simp)]; simp), hid (Below.refl _ _)⟩
  case round =>
    obtain ⟨m, s, hm, hsm, rfl, rfl, hd, hb⟩ := hrel
    have hB1 : ∀ B : UInt8, (⟨#[B]⟩ : ByteArray).size = 1 := fun _ => rfl
    obtain ⟨S, hS1, hS2, hS3, hS4, hS5⟩ := str_facts s
    rw [hS4]
    have hrest := fun h2 => hid (hd.out.trans (dgL_step hm h2))
    have hcv := one_byte wr (UInt8.ofNat (48 + m % 10))
    have hb8 : ((UInt8.ofNat (48 + m % 10)).toNat : Int) = 48 + (m : Int) % 10 := by
      rw [UInt8.toNat_ofNat', Nat.mod_eq_of_lt (by omega)]; omega
    rw [hb8] at hcv
    have hS6 : (⟨#[UInt8.ofNat (48 + m % 10)]⟩ : ByteArray) ++ S = ⟨(UInt8.ofNat (48 + m % 10) :: s).toArray⟩ := by rw [hS1]; exact str_add [_] s
    have bl := hid (bnext hb.out (below_lit wr (.cells #[.int .u8 (48 + (m : Int) % 10)] 5)))
    have hmd : ((m : Int) / 10) = ((m / 10 : Nat) : Int) := by omega
    obtain ⟨B, hB⟩ : ∃ B, B = UInt8.ofNat (48 + m % 10) := ⟨_, rfl⟩
    rw [← hB] at hcv hS6
    simp only [← hB] at hrest
    replace hB := hid hB
    replace hS1 := hid hS1
    replace hS4 := hid hS4
    replace hb8 := hid hb8
    have hsz1 : (⟨(B :: s).toArray⟩ : ByteArray).size = s.length + 1 := rfl
    by_cases h0 : 0 < m
    · have d1 : decide ((0 : Int) < (m : Int)) = true := decide_eq_true (by omega)
      have hst := hrest (.inl h0)
      clear hrest
      replace hS6 := hid hS6
      replace hmd := hid hmd
      go_wp2_with fail
      go_roundw
      case rel => exact ⟨m / 10, B :: s, by omega, by simp only [List.length_cons]; omega, by (try rw [hmd.out]); (try go_num), by (try rw [hS6.out]); rfl, hst, bl⟩
      case measure => (try rw [hS6.out]); simp [intOf, hsz1]; omega
    · have h0' : m = 0 := by omega
      subst h0'
      rcases s with _ | ⟨x, t⟩
      · have hst := hrest (.inr rfl)
        clear hrest
        replace hS6 := hid hS6
        have q1 : S.toList.isEmpty = true := by rw [hS5]; rfl
        have q2 : (S.toList == []) = true := by rw [hS5]; rfl
        simp at hcv bl
        go_wp2_with fail
        go_roundw
        case rel => exact ⟨0, [B], by omega, by simp, by (try go_num), by (try rw [hS6.out]); rfl, hst, bl⟩
        case measure => (try rw [hS6.out]); simp [intOf, hsz1]; rw [if_pos (by rw [hS1.out]; rfl)]; decide
      · have q1 : S.toList.isEmpty = false := by rw [hS5]; rfl
        have q2 : (S.toList == []) = false := by rw [hS5]; rfl
        have hfin : dig n = x :: t := by have := hd.out; unfold dgL at this; rw [if_pos ⟨rfl, by simp⟩] at this; exact this
        replace hfin := hid hfin
        clear hrest
        go_wp2
        go_ret
        refine ⟨?_, hb.out⟩
        rw [hfin.out]; exact congrArg _ hS4.out.symm
end Go.Proofs.YtomdghodbkhkaaaGreatDoor
