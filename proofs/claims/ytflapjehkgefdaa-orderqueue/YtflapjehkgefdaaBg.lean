/- Big, Pick. -/
import Derived.Test.YtflapjehkgefdaaMj
namespace Go.Proofs.Ytflapjehkgefdaa
open Go.RowKit
set_option linter.unusedVariables false

def bigB (cn pn ak qk k : Nat) : Bool := decide (60 < cn ∨ 60 < pn ∨ 60 < ak ∨ 60 < qk ∨ 60 < k)
set_option maxRecDepth 100000 in
set_option maxHeartbeats 1000000 in
theorem big_any (ca pa aa qa : Option Addr) (cn cc pn pc ak az qk qc : Nat) (pol : Int) (a : Option Addr) (k c : Nat) (w : World) :
    Calls Try.prog 5 #[.agg #[.slice ca cn cc, .slice pa pn pc, .slice aa ak az, .slice qa qk qc, .int .u8 pol], .slice a k c] w fun e w' => e = .returned (.bool (bigB cn pn ak qk k)) ∧ Below w.heap.size w w' := by
  have bl := below_lit w (.cells #[.slice ca cn cc, .slice pa pn pc, .slice aa ak az, .slice qa qk qc, .int .u8 pol] 28)
  by_cases h0 : 60 < cn
  · have d0 : (60 : Int) < (cn : Int) := by omega
    have hf := hid (show bigB cn pn ak qk k = true from decide_eq_true (by omega))
    go_enter Try.func5, Try.ntmps5
    go_wp2
    go_ret
    exact ⟨ret_bool hf.out.symm, bl⟩
  have d0 : ¬ (60 : Int) < (cn : Int) := by omega
  by_cases h1 : 60 < pn
  · have d1 : (60 : Int) < (pn : Int) := by omega
    have hf := hid (show bigB cn pn ak qk k = true from decide_eq_true (by omega))
    go_enter Try.func5, Try.ntmps5
    go_wp2
    go_ret
    exact ⟨ret_bool hf.out.symm, bl⟩
  have d1 : ¬ (60 : Int) < (pn : Int) := by omega
  by_cases h2 : 60 < ak
  · have d2 : (60 : Int) < (ak : Int) := by omega
    have hf := hid (show bigB cn pn ak qk k = true from decide_eq_true (by omega))
    go_enter Try.func5, Try.ntmps5
    go_wp2
    go_ret
    exact ⟨ret_bool hf.out.symm, bl⟩
  have d2 : ¬ (60 : Int) < (ak : Int) := by omega
  by_cases h3 : 60 < qk
  · have d3 : (60 : Int) < (qk : Int) := by omega
    have hf := hid (show bigB cn pn ak qk k = true from decide_eq_true (by omega))
    go_enter Try.func5, Try.ntmps5
    go_wp2
    go_ret
    exact ⟨ret_bool hf.out.symm, bl⟩
  have d3 : ¬ (60 : Int) < (qk : Int) := by omega
  by_cases h4 : 60 < k
  · have d4 : (60 : Int) < (k : Int) := by omega
    have hf := hid (show bigB cn pn ak qk k = true from decide_eq_true (by omega))
    go_enter Try.func5, Try.ntmps5
    go_wp2
    go_ret
    exact ⟨ret_bool hf.out.symm, bl⟩
  have d4 : ¬ (60 : Int) < (k : Int) := by omega
  have hf := hid (show bigB cn pn ak qk k = false from decide_eq_false (by omega))
  go_enter Try.func5, Try.ntmps5
  go_wp2
  go_ret
  exact ⟨ret_bool hf.out.symm, bl⟩

theorem pick_any (x : Int) (n : Nat) (w : World) (hn : 0 < n) (hn2 : n ≤ 4611686018427387904) :
    Calls Try.prog 10 #[.int .i64 x, .int .i64 n] w fun e w' => (∃ p : Nat, p < n ∧ e = .returned (.int .i64 p)) ∧ w' = w := by
  go_enter Try.func10, Try.ntmps10
  have h0 : ¬ (n : Int) < 1 := by omega
  go_wp2
  · rename_i hneg
    go_ret
    have h1 := Int.lt_tmod_of_pos x (show (0 : Int) < n by omega)
    refine ⟨⟨(x.tmod n + n).toNat, by omega, ret_int ?_⟩, rfl⟩
    simp [wrap64]
    omega
  · rename_i hpos
    go_ret
    have h1 := Int.tmod_lt_of_pos x (show (0 : Int) < n by omega)
    exact ⟨⟨(x.tmod n).toNat, by omega, ret_int (by simp; omega)⟩, rfl⟩

end Go.Proofs.Ytflapjehkgefdaa
