/- Pick. -/
import Derived.Test.YtgjjgfppolmkoaaNumBase
namespace Go.Proofs.Ytgjjgfppolmkoaa
open Go.RowKit

theorem pick_any (x : Int) (n : Nat) (w : World) (hn : 0 < n) (hn2 : n ≤ 4611686018427387904) :
    Calls Try.prog 27 #[.int .i64 x, .int .i64 n] w fun e w' => (∃ p : Nat, p < n ∧ e = .returned (.int .i64 p)) ∧ w' = w := by
  go_enter Try.func27, Try.ntmps27
  go_wp2
  · rename_i hneg
    go_ret
    have h1 := Int.lt_tmod_of_pos x (show (0 : Int) < n by omega)
    refine ⟨⟨(x.tmod n + n).toNat, by omega, ret_int ?_⟩, rfl⟩
    simp [wrap64]
    omega
  · rename_i hpos
    go_ret
    have h1 := Int.tmod_lt_of_pos x (show (0 : Int) < n by omega)
    exact ⟨⟨(x.tmod n).toNat, by omega, ret_int (by simp; omega)⟩, rfl⟩

end Go.Proofs.Ytgjjgfppolmkoaa
