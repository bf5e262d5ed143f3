/- The document's one record: the ways in which there is none. -/
import Derived.Test.YtcbgnodmamcmkaaRef2
import Derived.Test.YtcbgnodmamcmkaaStateOf
namespace Go.Proofs.Ytcbgnodmamcmkaa
open Go.RowKit

/-- The size of what begins l, and its number, are such as an entry's. -/
def HeadOk (l : List UInt8) (mb : Nat) : Prop := 4 ≤ l.length ∧ 9 ≤ sizeAt l 0 ∧ sizeAt l 0 ≤ 9 + mb ∧ sizeAt l 0 + 8 ≤ l.length ∧ numAt l 0 ≤ 4611686018427387904

theorem wrap_size (S : Nat) (h : S < 4294967296) : IntKind.u64.wrap ((S : Int) + 8) = (S : Int) + 8 := by rw [IntKind.wrap_u64]; omega

set_option maxRecDepth 100000 in
set_option maxHeartbeats 4000000 in
theorem refone_head (a : Option Addr) (len cap mb : Nat) (l : List UInt8) (w : World) (hl : l.length = len) (hlen : len ≤ 140737488355328) (hmb : mb ≤ 10000000) (hat : At w a l) (hno : ¬ HeadOk l mb) :
    Calls Try.prog 65 #[.slice a len cap, .int .i64 (mb : Int)] w fun e w' => e = .returned (.tuple #[.agg #[.int .i64 0, .int .u8 0, .slice none 0 0], .int .i64 0]) ∧ Below w.heap.size w w' := by
  have bb := below_lit w (.cells #[.int .i64 0, .int .u8 0, .slice none 0 0] 27)
  have hB := RBlk.new w (.int .i64 0) (.int .u8 0) (.slice none 0 0)
  have y0 := hB.cell0
  have y1 := hB.cell1
  have y2 := hB.cell2
  have f0 := hB.free 0
  have f1 := hB.free 1
  have f2 := hB.free 2
  have hBB := hB
  have bBB := bb
  by_cases h4 : l.length < 4
  · obtain ⟨e1, e2⟩ : rdV l 0 4 = 0 ∧ rdB l 0 4 = false := ⟨by unfold rdV; rw [if_neg (by omega)], by unfold rdB; exact decide_eq_false (by omega)⟩
    go_enter Try.func65, Try.ntmps65
    go_wp2_with fail
    refine (refnum_any a cap len l 0 4 _ hl (by omega) (by omega) (by omega) (hat.below bb)).mono ?_
    rintro e w1 ⟨rfl, rfl⟩
    rw [e1, e2]
    replace hl := hid hl
    go_wp2
    (try simp only [Exit.inBlock, Exit.then])
    refine bodyPost_ret (results_rec2 rfl _ _ w.heap.size (.int .i64 0) (.int .u8 0) (.slice none 0 0) rfl (by first | exact hBB | exact hBB.set _ _ _)) rfl ?_
    exact ⟨rfl, by first | exact bBB | exact ((bBB.setCell (p := ⟨w.heap.size, 0, none⟩) (Nat.le_refl _) _).setCell (p := ⟨w.heap.size, 1, none⟩) (Nat.le_refl _) _).setCell (p := ⟨w.heap.size, 2, none⟩) (Nat.le_refl _) _⟩
  · obtain ⟨e1, e2⟩ : rdV l 0 4 = (sizeAt l 0 : Int) ∧ rdB l 0 4 = true := ⟨by unfold rdV; rw [if_pos (by omega)]; rfl, by unfold rdB; exact decide_eq_true (by omega)⟩
    obtain ⟨S, hS⟩ : ∃ S, S = sizeAt l 0 := ⟨_, rfl⟩
    rw [← hS] at e1
    have hS32 : S < 4294967296 := by
      rw [hS]
      have := numOf_lt ((l.drop 0).take 4)
      rw [List.length_take, List.length_drop, Nat.min_eq_left (by omega)] at this
      unfold sizeAt
      omega
    have hw8 := wrap_size S hS32
    replace hS := hid hS
    by_cases h9 : S < 9
    · have hd1 : decide ((S : Int) < 9) = true := decide_eq_true (by omega)
      go_enter Try.func65, Try.ntmps65
      go_wp2_with fail
      refine (refnum_any a cap len l 0 4 _ hl (by omega) (by omega) (by omega) (hat.below bb)).mono ?_
      rintro e w1 ⟨rfl, rfl⟩
      rw [e1, e2]
      replace hl := hid hl
      go_wp2
      (try simp only [Exit.inBlock, Exit.then])
      refine bodyPost_ret (results_rec2 rfl _ _ w.heap.size (.int .i64 0) (.int .u8 0) (.slice none 0 0) rfl (by first | exact hBB | exact hBB.set _ _ _)) rfl ?_
      exact ⟨rfl, by first | exact bBB | exact ((bBB.setCell (p := ⟨w.heap.size, 0, none⟩) (Nat.le_refl _) _).setCell (p := ⟨w.heap.size, 1, none⟩) (Nat.le_refl _) _).setCell (p := ⟨w.heap.size, 2, none⟩) (Nat.le_refl _) _⟩
    · have hd1 : decide ((S : Int) < 9) = false := decide_eq_false (by omega)
      by_cases hm : 9 + mb < S
      · have hd2 : decide (9 + (mb : Int) < (S : Int)) = true := decide_eq_true (by omega)
        go_enter Try.func65, Try.ntmps65
        go_wp2_with fail
        refine (refnum_any a cap len l 0 4 _ hl (by omega) (by omega) (by omega) (hat.below bb)).mono ?_
        rintro e w1 ⟨rfl, rfl⟩
        rw [e1, e2]
        replace hl := hid hl
        go_wp2
        (try simp only [Exit.inBlock, Exit.then])
        refine bodyPost_ret (results_rec2 rfl _ _ w.heap.size (.int .i64 0) (.int .u8 0) (.slice none 0 0) rfl (by first | exact hBB | exact hBB.set _ _ _)) rfl ?_
        exact ⟨rfl, by first | exact bBB | exact ((bBB.setCell (p := ⟨w.heap.size, 0, none⟩) (Nat.le_refl _) _).setCell (p := ⟨w.heap.size, 1, none⟩) (Nat.le_refl _) _).setCell (p := ⟨w.heap.size, 2, none⟩) (Nat.le_refl _) _⟩
      · have hd2 : decide (9 + (mb : Int) < (S : Int)) = false := decide_eq_false (by omega)
        by_cases h8 : len < S + 8
        · have hd3 : decide ((len : Int) < (S : Int) + 8) = true := decide_eq_true (by omega)
          go_enter Try.func65, Try.ntmps65
          go_wp2_with fail
          refine (refnum_any a cap len l 0 4 _ hl (by omega) (by omega) (by omega) (hat.below bb)).mono ?_
          rintro e w1 ⟨rfl, rfl⟩
          rw [e1, e2]
          replace hl := hid hl
          go_wp2
          (try simp only [Exit.inBlock, Exit.then])
          refine bodyPost_ret (results_rec2 rfl _ _ w.heap.size (.int .i64 0) (.int .u8 0) (.slice none 0 0) rfl (by first | exact hBB | exact hBB.set _ _ _)) rfl ?_
          exact ⟨rfl, by first | exact bBB | exact ((bBB.setCell (p := ⟨w.heap.size, 0, none⟩) (Nat.le_refl _) _).setCell (p := ⟨w.heap.size, 1, none⟩) (Nat.le_refl _) _).setCell (p := ⟨w.heap.size, 2, none⟩) (Nat.le_refl _) _⟩
        · have hd3 : decide ((len : Int) < (S : Int) + 8) = false := decide_eq_false (by omega)
          have hN : 4611686018427387904 < numAt l 0 := by
            refine Nat.lt_of_not_le fun h => hno ⟨by omega, ?_, ?_, ?_, h⟩
            all_goals rw [← hS.out]; omega
          obtain ⟨g1, g2⟩ : rdV l 4 8 = (numAt l 0 : Int) ∧ rdB l 4 8 = true := ⟨by unfold rdV; rw [if_pos (by omega)]; rfl, by unfold rdB; exact decide_eq_true (by omega)⟩
          obtain ⟨N, hN2⟩ : ∃ N, N = numAt l 0 := ⟨_, rfl⟩
          rw [← hN2] at g1 hN
          have hd4 : decide (4611686018427387904 < (N : Int)) = true := decide_eq_true (by omega)
          go_enter Try.func65, Try.ntmps65
          go_wp2_with fail
          refine (refnum_any a cap len l 0 4 _ hl (by omega) (by omega) (by omega) (hat.below bb)).mono ?_
          rintro e w1 ⟨rfl, rfl⟩
          rw [e1, e2]
          go_wp2_with fail
          refine (refnum_any a cap len l 4 8 _ hl (by omega) (by omega) (by omega) (hat.below bb)).mono ?_
          rintro e w1 ⟨rfl, rfl⟩
          rw [g1, g2]
          replace hl := hid hl
          go_wp2
          (try simp only [Exit.inBlock, Exit.then])
          refine bodyPost_ret (results_rec2 rfl _ _ w.heap.size (.int .i64 0) (.int .u8 0) (.slice none 0 0) rfl (by first | exact hBB | exact hBB.set _ _ _)) rfl ?_
          exact ⟨rfl, by first | exact bBB | exact ((bBB.setCell (p := ⟨w.heap.size, 0, none⟩) (Nat.le_refl _) _).setCell (p := ⟨w.heap.size, 1, none⟩) (Nat.le_refl _) _).setCell (p := ⟨w.heap.size, 2, none⟩) (Nat.le_refl _) _⟩

end Go.Proofs.Ytcbgnodmamcmkaa
