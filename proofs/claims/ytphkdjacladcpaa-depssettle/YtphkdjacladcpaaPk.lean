/- Pick. -/
import Derived.Test.YtphkdjacladcpaaCnt
namespace Go.Proofs.Ytphkdjacladcpaa
open Go.RowKit
set_option linter.unusedVariables false

theorem pick_any (x : Int) (n : Nat) (w : World) (hn : 0 < n) (hn2 : n ≤ 4611686018427387904) :
    Calls Try.prog 17 #[.int .i64 x, .int .i64 n] w fun e w' => (∃ p : Nat, p < n ∧ e = .returned (.int .i64 p)) ∧ w' = w := by
  go_enter Try.func17, Try.ntmps17
  have h0 : ¬ (n : Int) < 1 := by omega
  go_wp2
  · rename_i hneg
    go_ret
    have h1 := Int.lt_tmod_of_pos x (show (0 : Int) < n by omega)
    refine ⟨⟨(x.tmod n + n).toNat, by omega, ret_int ?_⟩, rfl⟩
    simp [wrap64]
    omega
  · rename_i hpos
    go_ret
    have h1 := Int.tmod_lt_of_pos x (show (0 : Int) < n by omega)
    exact ⟨⟨(x.tmod n).toNat, by omega, ret_int (by simp; omega)⟩, rfl⟩

end Go.Proofs.Ytphkdjacladcpaa
