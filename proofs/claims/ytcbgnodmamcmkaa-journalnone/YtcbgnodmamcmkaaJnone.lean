/- Calls upon a journal that is none. -/
import Derived.Test.YtcbgnodmamcmkaaJrn
namespace Go.Proofs.Ytcbgnodmamcmkaa
open Go.RowKit

theorem append_none (v : Value) (kind : Int) (a : Option Addr) (len cap : Nat) (w : World) (h : JNone w v) : Calls Try.prog 13 #[v, .int .u8 kind, .slice a len cap] w fun e w' => e = .returned (.tuple #[.int .i64 0, .int .i64 1]) ∧ w' = w := by
  have hc := usable_none v w h
  go_enter Try.func13, Try.ntmps13
  go_wp2_with fail
  refine hc.mono ?_
  rintro e w1 ⟨rfl, rfl⟩
  go_wp2
  go_ret2
  exact ⟨rfl, rfl⟩
theorem sync_none (v : Value) (w : World) (h : JNone w v) : Calls Try.prog 15 #[v] w fun e w' => e = .returned (.int .i64 1) ∧ w' = w := by
  have hc := usable_none v w h
  go_enter Try.func15, Try.ntmps15
  go_wp2_with fail
  refine hc.mono ?_
  rintro e w1 ⟨rfl, rfl⟩
  go_wp2
  go_ret
  exact ⟨rfl, rfl⟩
theorem snapshot_none (v : Value) (a : Option Addr) (len cap : Nat) (w : World) (h : JNone w v) : Calls Try.prog 14 #[v, .slice a len cap] w fun e w' => e = .returned (.int .i64 1) ∧ Below w.heap.size w w' := by
  have bb := fun v => below_lit w (.cells #[v] 31)
  rcases h with rfl | ⟨g, l, s, f, b, rfl, h2⟩
  · have hc := usable_none (.pointer none) (w.alloc (.cells #[.pointer none] 31)) (.inl rfl)
    go_enter Try.func14, Try.ntmps14
    go_wp2_with fail
    refine hc.mono ?_
    rintro e w1 ⟨rfl, rfl⟩
    go_wp2
    go_ret
    exact ⟨rfl, bb _⟩
  · have hc := usable_none (.pointer (some ⟨g, 0, none⟩)) (w.alloc (.cells #[.pointer (some ⟨g, 0, none⟩)] 31)) (.inr ⟨g, l, s, f, b, rfl, h2.below (bb _)⟩)
    go_enter Try.func14, Try.ntmps14
    go_wp2_with fail
    refine hc.mono ?_
    rintro e w1 ⟨rfl, rfl⟩
    go_wp2
    go_ret
    exact ⟨rfl, bb _⟩
end Go.Proofs.Ytcbgnodmamcmkaa
