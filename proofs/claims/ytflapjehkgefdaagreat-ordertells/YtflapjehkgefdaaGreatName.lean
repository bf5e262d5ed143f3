/- Whether a text is a name: it is gone through by runes. -/
import Derived.Test.YtflapjehkgefdaaGreatFind
import Derived.Lib.OthersKept
import Derived.Deep.LoopGhost
namespace Go.Proofs.YtflapjehkgefdaaGreat
open Go.RowKit

def letN (r : Nat) : Bool := decide (97 ≤ r ∧ r ≤ 122)
def othN (r : Nat) : Bool := decide ((48 ≤ r ∧ r ≤ 57) ∨ r = 45 ∨ r = 95)

theorem letter_any (r : Nat) (w : World) : Calls Tryz.prog 94 #[.int .i32 (r : Int)] w fun e w' => e = .returned (.bool (letN r)) ∧ w' = w := by
  by_cases h1 : 97 ≤ r
  · have d1 : decide ((97 : Int) ≤ (r : Int)) = true := by simp; omega
    by_cases h2 : r ≤ 122
    · have d2 : decide ((r : Int) ≤ 122) = true := by simp; omega
      have hf := hid (show letN r = true from decide_eq_true ⟨h1, h2⟩)
      go_enter Tryz.func94, Tryz.ntmps94
      go_wp2
      go_ret
      rw [hf.out]; exact ⟨rfl, rfl⟩
    · have d2 : decide ((r : Int) ≤ 122) = false := by simp; omega
      have hf := hid (show letN r = false from decide_eq_false fun h => h2 h.2)
      go_enter Tryz.func94, Tryz.ntmps94
      go_wp2
      go_ret
      rw [hf.out]; exact ⟨rfl, rfl⟩
  · have d1 : decide ((97 : Int) ≤ (r : Int)) = false := by simp; omega
    have hf := hid (show letN r = false from decide_eq_false fun h => h1 h.1)
    go_enter Tryz.func94, Tryz.ntmps94
    go_wp2
    go_ret
    rw [hf.out]; exact ⟨rfl, rfl⟩

theorem other_any (r : Nat) (w : World) : Calls Tryz.prog 95 #[.int .i32 (r : Int)] w fun e w' => e = .returned (.bool (othN r)) ∧ w' = w := by
  by_cases h1 : (48 ≤ r ∧ r ≤ 57) ∨ r = 45 ∨ r = 95
  · have hf := hid (show othN r = true from decide_eq_true h1)
    rcases h1 with ⟨h1, h2⟩ | rfl | rfl
    · have d1 : decide ((48 : Int) ≤ (r : Int)) = true := by simp; omega
      have d2 : decide ((r : Int) ≤ 57) = true := by simp; omega
      go_enter Tryz.func95, Tryz.ntmps95
      go_wp2
      go_ret
      rw [hf.out]; exact ⟨rfl, rfl⟩
    · go_enter Tryz.func95, Tryz.ntmps95
      go_wp2
      go_ret
      rw [hf.out]; exact ⟨rfl, rfl⟩
    · go_enter Tryz.func95, Tryz.ntmps95
      go_wp2
      go_ret
      rw [hf.out]; exact ⟨rfl, rfl⟩
  · have hf := hid (show othN r = false from decide_eq_false h1)
    have e1 : ((r : Int) == 45) = false := by simp; omega
    have e2 : ((r : Int) == 95) = false := by simp; omega
    by_cases h2 : 48 ≤ r
    · have d1 : decide ((48 : Int) ≤ (r : Int)) = true := by simp; omega
      have d2 : decide ((r : Int) ≤ 57) = false := by simp; omega
      go_enter Tryz.func95, Tryz.ntmps95
      go_wp2
      go_ret
      rw [hf.out]; exact ⟨rfl, rfl⟩
    · have d1 : decide ((48 : Int) ≤ (r : Int)) = false := by simp; omega
      go_enter Tryz.func95, Tryz.ntmps95
      go_wp2
      go_ret
      rw [hf.out]; exact ⟨rfl, rfl⟩

/-- A rune that opens with no byte of ASCII is none. -/
theorem decode_high (s : ByteArray) (i : Nat) (h : ¬ (s.get! i).toNat < 128) : 128 ≤ (Utf8.decode s i).1 := by
  unfold Utf8.decode
  simp only [Nat.add_zero]
  rw [if_neg h]
  repeat' split
  all_goals first
    | (simp only []; unfold Utf8.runeError; omega)
    | (rename_i h1; simp only [Bool.and_eq_true, decide_eq_true_eq] at h1; simp only []; omega)
    | (simp only []; omega)

theorem decode_low (s : ByteArray) (i : Nat) (h : (s.get! i).toNat < 128) : Utf8.decode s i = ((s.get! i).toNat, 1) := by
  unfold Utf8.decode
  simp only [Nat.add_zero]
  rw [if_pos h]

theorem decode_le (s : ByteArray) (i : Nat) : (Utf8.decode s i).1 < 2147483648 := by
  unfold Utf8.decode
  simp only []
  have h0 := (s.get! (i + 0)).toNat_lt
  repeat' split
  all_goals (simp only []; first | omega | (unfold Utf8.runeError; omega))

theorem iterPos_of {w : World} {k : Nat} {s : ByteArray} {p : Nat} (h : w.heap[k]? = some (.stringIter s p)) : w.iterPos k = p := by simp [World.iterPos, h]

def OkTo (s : ByteArray) (j : Nat) : Prop := ∀ i, i < j → okAt s i = true

theorem name_no {s : ByteArray} (h : ¬ (1 ≤ s.size ∧ s.size ≤ 16)) : nameB s = false := decide_eq_false fun h1 => h ⟨h1.1, h1.2.1⟩
theorem name_bad {s : ByteArray} {i : Nat} (hi : i < s.size) (h : okAt s i = false) : nameB s = false := decide_eq_false fun h1 => by
  have := h1.2.2 i hi
  rw [h] at this; cases this
theorem name_good {s : ByteArray} (h1 : 1 ≤ s.size) (h2 : s.size ≤ 16) (h : OkTo s s.size) : nameB s = true := decide_eq_true ⟨h1, h2, h⟩

set_option maxRecDepth 100000 in
set_option maxHeartbeats 1000000 in
theorem name_any (s : ByteArray) (w : World) : Calls Tryz.prog 83 #[.string s] w fun e w' => e = .returned (.bool (nameB s)) ∧ Below w.heap.size w w' := by
  by_cases h1 : s.size < 1
  · have hf := hid (name_no (s := s) (by omega))
    have d1 : decide ((s.size : Int) < 1) = true := by simp; omega
    go_enter Tryz.func83, Tryz.ntmps83
    go_wp2
    go_ret
    rw [hf.out]; exact ⟨rfl, Below.refl _ _⟩
  have d1 : decide ((s.size : Int) < 1) = false := by simp; omega
  by_cases h2 : 16 < s.size
  · have hf := hid (name_no (s := s) (by omega))
    have d2 : decide ((16 : Int) < (s.size : Int)) = true := by simp; omega
    go_enter Tryz.func83, Tryz.ntmps83
    go_wp2
    go_ret
    rw [hf.out]; exact ⟨rfl, Below.refl _ _⟩
  have d2 : decide ((16 : Int) < (s.size : Int)) = false := by simp; omega
  go_enter Tryz.func83, Tryz.ntmps83
  go_wp2_with fail
  go_loopw [3] (fun _ wr => ∃ pos : Nat, pos ≤ s.size ∧ wr.heap[w.heap.size]? = some (.stringIter s pos) ∧ Below w.heap.size w wr ∧ Hid (OkTo s pos)) (fun _ wr => s.size - wr.iterPos w.heap.size)
  case atStart => exact ⟨0, Nat.zero_le _, World.iter_heap w s 0, (Below.refl _ _).alloc (Nat.le_refl _) _, hid fun i hi => by omega⟩
  case round =>
    obtain ⟨pos, hps, hit, hbw, hok⟩ := hrel
    have hpos0 := iterPos_of hit
    by_cases hp : pos < s.size
    · have hnx : ∀ ty, (Instr.next (.pointer (some ⟨w.heap.size, 0, none⟩)) true ty).run Tryz.prog wr = _ := fun ty => Lib.run_next_any_at wr w.heap.size s pos ty hit hp
      have hit2 := Lib.iterAt_heap wr w.heap.size s pos (pos + (Utf8.decode s pos).2) hit
      have hbw2 := Lib.below_iterAt hbw (k := w.heap.size) (Nat.le_refl _) s (pos + (Utf8.decode s pos).2)
      obtain ⟨W1, hW1⟩ : ∃ W1, W1 = wr.iterAt w.heap.size s (pos + (Utf8.decode s pos).2) := ⟨_, rfl⟩
      rw [← hW1] at hnx hit2 hbw2
      clear hW1 hit hbw
      have kL := fun w => letter_any (Utf8.decode s pos).1 w
      have kO := fun w => other_any (Utf8.decode s pos).1 w
      by_cases hhi : (s.get! pos).toNat < 128
      · have hd := decode_low s pos hhi
        rw [hd] at hnx hit2 kL kO
        simp only [] at hnx hit2 kL kO
        cases hL : letN (s.get! pos).toNat
        · rw [hL] at kL
          by_cases hz : pos = 0
          · subst hz
            have hf := hid (name_bad (s := s) hp (by unfold okAt; rw [show letB (s.get! 0) = false from hL]; rfl))
            replace hL := hid hL
            replace hd := hid hd
            generalize (s.get! 0).toNat = R at *
            go_wp2_with fail
            refine (kL _).mono ?_
            rintro e w1 ⟨rfl, rfl⟩
            go_wp2
            go_ret
            rw [hf.out]; exact ⟨rfl, hbw2⟩
          · have dz : ((pos : Int) == 0) = false := by simp; omega
            cases hO : othN (s.get! pos).toNat
            · rw [hO] at kO
              have hf := hid (name_bad (s := s) hp (by unfold okAt; rw [show letB (s.get! pos) = false from hL, show othB (s.get! pos) = false from hO]; simp))
              replace hL := hid hL
              replace hO := hid hO
              replace hd := hid hd
              generalize (s.get! pos).toNat = R at *
              go_wp2_with fail
              refine (kL _).mono ?_
              rintro e w1 ⟨rfl, rfl⟩
              go_wp2_with fail
              refine (kO _).mono ?_
              rintro e w1 ⟨rfl, rfl⟩
              go_wp2
              go_ret
              rw [hf.out]; exact ⟨rfl, hbw2⟩
            · rw [hO] at kO
              have hok2 : Hid (OkTo s (pos + 1)) := hid fun i hi => by
                rcases Nat.lt_or_ge i pos with h | h
                · exact hok.out i h
                · obtain rfl : i = pos := by omega
                  unfold okAt; rw [show othB (s.get! i) = true from hO]; simp [hz]
              replace hL := hid hL
              replace hO := hid hO
              replace hd := hid hd
              generalize (s.get! pos).toNat = R at *
              go_wp2_with fail
              refine (kL _).mono ?_
              rintro e w1 ⟨rfl, rfl⟩
              go_wp2_with fail
              refine (kO _).mono ?_
              rintro e w1 ⟨rfl, rfl⟩
              go_wp2_with fail
              go_roundw
              case rel => exact ⟨pos + 1, by omega, hit2, hbw2, hok2⟩
              case measure => rw [iterPos_of hit2, hpos0]; omega
        · rw [hL] at kL
          have hok2 : Hid (OkTo s (pos + 1)) := hid fun i hi => by
            rcases Nat.lt_or_ge i pos with h | h
            · exact hok.out i h
            · obtain rfl : i = pos := by omega
              unfold okAt; rw [show letB (s.get! i) = true from hL]; rfl
          replace hL := hid hL
          replace hd := hid hd
          generalize (s.get! pos).toNat = R at *
          go_wp2_with fail
          refine (kL _).mono ?_
          rintro e w1 ⟨rfl, rfl⟩
          go_wp2_with fail
          go_roundw
          case rel => exact ⟨pos + 1, by omega, hit2, hbw2, hok2⟩
          case measure => rw [iterPos_of hit2, hpos0]; omega
      · have hd := decode_high s pos hhi
        have hle := decode_le s pos
        have hL : letN (Utf8.decode s pos).1 = false := decide_eq_false fun h => by omega
        have hO : othN (Utf8.decode s pos).1 = false := decide_eq_false fun h => by omega
        have hf := hid (name_bad (s := s) hp (by
          have e1 : letB (s.get! pos) = false := decide_eq_false fun h => by omega
          have e2 : othB (s.get! pos) = false := decide_eq_false fun h => by omega
          unfold okAt; rw [e1, e2]; simp))
        rw [hL] at kL
        rw [hO] at kO
        replace hL := hid hL
        replace hO := hid hO
        generalize (Utf8.decode s pos).1 = R at *
        generalize (Utf8.decode s pos).2 = D at *
        by_cases hz : pos = 0
        · subst hz
          go_wp2_with fail
          refine (kL _).mono ?_
          rintro e w1 ⟨rfl, rfl⟩
          go_wp2
          go_ret
          rw [hf.out]; exact ⟨rfl, hbw2⟩
        · have dz : ((pos : Int) == 0) = false := by simp; omega
          go_wp2_with fail
          refine (kL _).mono ?_
          rintro e w1 ⟨rfl, rfl⟩
          go_wp2_with fail
          refine (kO _).mono ?_
          rintro e w1 ⟨rfl, rfl⟩
          go_wp2
          go_ret
          rw [hf.out]; exact ⟨rfl, hbw2⟩
    · have hnx : ∀ ty, (Instr.next (.pointer (some ⟨w.heap.size, 0, none⟩)) true ty).run Tryz.prog wr = _ := fun ty => Lib.run_next_end_at wr w.heap.size s pos ty hit hp
      have hpe : pos = s.size := by omega
      have hf := hid (name_good (s := s) (by omega) (by omega) (by rw [← hpe]; exact hok.out))
      go_wp2
      go_ret
      rw [hf.out]; exact ⟨rfl, hbw⟩

end Go.Proofs.YtflapjehkgefdaaGreat
