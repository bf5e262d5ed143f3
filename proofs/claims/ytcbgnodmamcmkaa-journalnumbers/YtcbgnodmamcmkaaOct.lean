/- The numbers of eight bytes, and of one. -/
import Derived.Test.YtcbgnodmamcmkaaMem
namespace Go.Proofs.Ytcbgnodmamcmkaa
open Go.RowKit

theorem u64_any (a : Option Addr) (cap len : Nat) (l : List UInt8) (p : Int) (w : World) (hl : l.length = len) (hlen : len ≤ 4611686018427387904) (hat : At w a l) :
    Calls Try.prog 101 #[.slice a len cap, .int .i64 p] w fun e w' => e = .returned (.tuple #[.int .u64 (rdV l p 8), .bool (rdB l p 8)]) ∧ w' = w := by
  go_enter Try.func101, Try.ntmps101
  go_wp2_with (go_at_call 108; refine (number_any a cap len l p 8 _ hl hlen (by omega) (by omega) hat).mono ?_; rintro e w' ⟨rfl, rfl⟩)
  go_ret2
  exact ⟨rfl, rfl⟩

theorem u8_any (a : Option Addr) (cap len : Nat) (l : List UInt8) (p : Int) (w : World) (hl : l.length = len) (hlen : len ≤ 4611686018427387904) (hat : At w a l) :
    Calls Try.prog 102 #[.slice a len cap, .int .i64 p] w fun e w' => e = .returned (.tuple #[.int .u8 (rdV l p 1), .bool (rdB l p 1)]) ∧ w' = w := by
  go_enter Try.func102, Try.ntmps102
  go_wp2_with (go_at_call 108; refine (number_any a cap len l p 1 _ hl hlen (by omega) (by omega) hat).mono ?_; rintro e w' ⟨rfl, rfl⟩)
  go_ret2
  have hb := rdV_bounds l p 1
  exact ⟨tuple_two (by omega), rfl⟩

theorem add64_any (a : Option Addr) (cap len v : Nat) (l : List UInt8) (w : World) (hl : l.length = len) (hlen : len ≤ 140737488355328) (hv : v < 18446744073709551616) (hat : At w a l) :
    Calls Try.prog 78 #[.slice a len cap, .int .u64 v] w fun e w' => e = .returned (.slice (some ⟨w.heap.size, 0, none⟩) (len + 8) (len + 8)) ∧ Row w' w.heap.size (l ++ be 8 v) ∧ Below w.heap.size w w' := by
  go_enter Try.func78, Try.ntmps78
  go_wp2_with (go_at_call 96; refine (o_add_any a cap len 8 v l _ hl (by omega) (by omega) hv hat).mono ?_; rintro e w1 ⟨rfl, hrow, hb1⟩)
  go_ret
  exact ⟨rfl, hrow, hb1⟩

theorem add64_ex (a : Option Addr) (cap len v : Nat) (l : List UInt8) (w : World) (hl : l.length = len) (hlen : len ≤ 140737488355328) (hv : v < 18446744073709551616) (hat : At w a l) :
    Calls Try.prog 78 #[.slice a len cap, .int .u64 v] w fun e w' => ∃ g, e = .returned (.slice (some ⟨g, 0, none⟩) (len + 8) (len + 8)) ∧ Fresh w w' g (l ++ be 8 v) :=
  (add64_any a cap len v l w hl hlen hv hat).mono fun _ _ h => ⟨_, h.1, h.2⟩

end Go.Proofs.Ytcbgnodmamcmkaa
