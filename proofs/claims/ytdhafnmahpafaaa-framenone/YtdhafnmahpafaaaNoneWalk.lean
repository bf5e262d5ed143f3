/- FrameNone's Go text returns true for any bytes, and turns nothing that was there. -/
import Derived.Test.YtdhafnmahpafaaaAwake
namespace Go.Proofs.Ytdhafnmahpafaaa
open Go.RowKit

theorem none_feed (pa a : Option Addr) (len cap : Nat) (w : World) (h : Calls Try.prog 27 #[.pointer pa] w fun e w' => e = .returned (.bool false) ∧ w' = w) :
    Calls Try.prog 10 #[.pointer pa, .slice a len cap] w fun e w' => e = .returned (.tuple #[.slice none 0 0, .int .i64 1]) ∧ w' = w := by
  go_enter Try.func10, Try.ntmps10
  go_wp2_with fail
  go_step3
  go_wp2_with fail
  refine h.mono ?_
  rintro e w1 ⟨rfl, rfl⟩
  go_wp2
  rw [Exit.noGoto_ret]
  go_ret2
  exact ⟨rfl, rfl⟩

theorem none_left (pa : Option Addr) (w : World) (h : Calls Try.prog 27 #[.pointer pa] w fun e w' => e = .returned (.bool false) ∧ w' = w) :
    Calls Try.prog 11 #[.pointer pa] w fun e w' => e = .returned (.int .i64 0) ∧ w' = w := by
  go_enter Try.func11, Try.ntmps11
  go_wp2_with fail
  refine h.mono ?_
  rintro e w1 ⟨rfl, rfl⟩
  go_wp2
  go_ret
  exact ⟨rfl, rfl⟩

theorem none_copy (pa : Option Addr) (w : World) (h : Calls Try.prog 27 #[.pointer pa] w fun e w' => e = .returned (.bool false) ∧ w' = w) :
    Calls Try.prog 18 #[.pointer pa] w fun e w' => e = .returned (.pointer none) ∧ w' = w := by
  go_enter Try.func18, Try.ntmps18
  go_wp2_with fail
  refine h.mono ?_
  rintro e w1 ⟨rfl, rfl⟩
  go_wp2
  go_ret
  exact ⟨rfl, rfl⟩

set_option maxRecDepth 100000 in
set_option maxHeartbeats 1000000 in
theorem none_any (a : Option Addr) (len cap : Nat) (w : World) :
    Calls Try.prog 5 #[.slice a len cap] w fun e w' => e = .returned (.bool true) ∧ Below w.heap.size w w' := by
  go_enter Try.func5, Try.ntmps5
  go_wp2
  have hbW : Below w.heap.size w ((w.alloc (.cells #[.bool false, .bool false, .slice none 0 0] 46)).alloc (.cells #[.pointer none, .pointer (some ⟨w.heap.size, 0, none⟩)] 28)) := bnext (below_lit w _) (below_lit _ _)
  have hone : Calls Try.prog 27 #[.pointer (some ⟨w.heap.size, 0, none⟩)] ((w.alloc (.cells #[.bool false, .bool false, .slice none 0 0] 46)).alloc (.cells #[.pointer none, .pointer (some ⟨w.heap.size, 0, none⟩)] 28)) fun e w' => e = .returned (.bool false) ∧ w' = ((w.alloc (.cells #[.bool false, .bool false, .slice none 0 0] 46)).alloc (.cells #[.pointer none, .pointer (some ⟨w.heap.size, 0, none⟩)] 28)) := by
    refine isone_zero _ _ ?_
    have h1 : (w.alloc (.cells #[.bool false, .bool false, .slice none 0 0] 46)).cell? ⟨w.heap.size, 0, none⟩ = some (.bool false) := by
      rw [cell_of_row _ w.heap.size 0 #[.bool false, .bool false, .slice none 0 0] 46 (0, 0) (heap_alloc_new w _)]
      rfl
    rw [(below_lit (w.alloc (.cells #[.bool false, .bool false, .slice none 0 0] 46)) _).cell (p := ⟨w.heap.size, 0, none⟩) (World.block_lt_of_cell? _ _ h1)]
    exact h1
  have hx0 : ((w.alloc (.cells #[.bool false, .bool false, .slice none 0 0] 46)).alloc (.cells #[.pointer none, .pointer (some ⟨w.heap.size, 0, none⟩)] 28)).cell? ⟨w.heap.size + 1, 0, none⟩ = some (.pointer none) := by
    have := heap_alloc_new (w.alloc (.cells #[.bool false, .bool false, .slice none 0 0] 46)) (.cells #[.pointer none, .pointer (some ⟨w.heap.size, 0, none⟩)] 28)
    rw [show (w.alloc (.cells #[.bool false, .bool false, .slice none 0 0] 46)).heap.size = w.heap.size + 1 by simp] at this
    rw [cell_of_row _ (w.heap.size + 1) 0 _ 28 (0, 0) this]
    rfl
  have hx1 : ((w.alloc (.cells #[.bool false, .bool false, .slice none 0 0] 46)).alloc (.cells #[.pointer none, .pointer (some ⟨w.heap.size, 0, none⟩)] 28)).cell? ⟨w.heap.size + 1, 1, none⟩ = some (.pointer (some ⟨w.heap.size, 0, none⟩)) := by
    have := heap_alloc_new (w.alloc (.cells #[.bool false, .bool false, .slice none 0 0] 46)) (.cells #[.pointer none, .pointer (some ⟨w.heap.size, 0, none⟩)] 28)
    rw [show (w.alloc (.cells #[.bool false, .bool false, .slice none 0 0] 46)).heap.size = w.heap.size + 1 by simp] at this
    rw [cell_of_row _ (w.heap.size + 1) 1 _ 28 (0, 0) this]
    rfl
  generalize ((w.alloc (.cells #[.bool false, .bool false, .slice none 0 0] 46)).alloc (.cells #[.pointer none, .pointer (some ⟨w.heap.size, 0, none⟩)] 28)) = W at *
  go_loop [13] (fun i => ∃ j : Nat, j ≤ 2 ∧ i = .int .i64 j) (fun i => 2 - (intOf i).toNat)
  case atStart => exact ⟨0, by omega, rfl⟩
  case round =>
    obtain ⟨j, hj, rfl⟩ := hrel
    have hj3 : j = 0 ∨ j = 1 ∨ j = 2 := by omega
    rcases hj3 with rfl | rfl | rfl
    · go_wp2_with fail
      refine (none_feed none a len cap _ (isone_nil _)).mono ?_
      rintro e w1 ⟨rfl, rfl⟩
      go_wp2_with fail
      refine (none_left none _ (isone_nil _)).mono ?_
      rintro e w1 ⟨rfl, rfl⟩
      go_wp2_with fail
      refine (none_copy none _ (isone_nil _)).mono ?_
      rintro e w1 ⟨rfl, rfl⟩
      go_wp2
      go_round
      case rel => exact ⟨1, by omega, by go_num⟩
      case measure => simp [intOf]
    · go_wp2_with fail
      refine (none_feed _ a len cap _ hone).mono ?_
      rintro e w1 ⟨rfl, rfl⟩
      go_wp2_with fail
      refine (none_left _ _ hone).mono ?_
      rintro e w1 ⟨rfl, rfl⟩
      go_wp2_with fail
      refine (none_copy _ _ hone).mono ?_
      rintro e w1 ⟨rfl, rfl⟩
      go_wp2
      go_round
      case rel => exact ⟨2, by omega, by go_num⟩
      case measure => simp [intOf]
    · go_wp2_with (go_at_call 13; refine (awake_any _).mono ?_; rintro e w1 ⟨rfl, hb1⟩)
      go_ret
      exact ⟨rfl, bnext hbW hb1⟩
end Go.Proofs.Ytdhafnmahpafaaa
