/- Whether a config is too great to be gone through. -/
import Derived.Test.YtilncacmkfohdaaGreatUse
namespace Go.Proofs.YtilncacmkfohdaaGreat
open Go.RowKit

def bigB (cn pn ak qk : Nat) : Bool := decide (60 < cn ∨ 60 < pn ∨ 60 < ak ∨ 60 < qk)
set_option maxRecDepth 100000 in
set_option maxHeartbeats 1000000 in
theorem big_any (ca pa aa qa : Option Addr) (cn cc pn pc ak az qk qc : Nat) (pol : Int) (w : World) :
    Calls Tryz.prog 4 #[.agg #[.slice ca cn cc, .slice pa pn pc, .slice aa ak az, .slice qa qk qc, .int .u8 pol]] w fun e w' => e = .returned (.bool (bigB cn pn ak qk)) ∧ Below w.heap.size w w' := by
  have bl := below_lit w (.cells #[.slice ca cn cc, .slice pa pn pc, .slice aa ak az, .slice qa qk qc, .int .u8 pol] 28)
  by_cases h1 : 60 < cn
  · have d1 : (60 : Int) < (cn : Int) := by omega
    have hf := hid (show bigB cn pn ak qk = true from decide_eq_true (by omega))
    go_enter Tryz.func4, Tryz.ntmps4
    go_wp2
    go_ret
    exact ⟨ret_bool hf.out.symm, bl⟩
  have d1 : ¬ (60 : Int) < (cn : Int) := by omega
  by_cases h2 : 60 < pn
  · have d2 : (60 : Int) < (pn : Int) := by omega
    have hf := hid (show bigB cn pn ak qk = true from decide_eq_true (by omega))
    go_enter Tryz.func4, Tryz.ntmps4
    go_wp2
    go_ret
    exact ⟨ret_bool hf.out.symm, bl⟩
  have d2 : ¬ (60 : Int) < (pn : Int) := by omega
  by_cases h3 : 60 < ak
  · have d3 : (60 : Int) < (ak : Int) := by omega
    have hf := hid (show bigB cn pn ak qk = true from decide_eq_true (by omega))
    go_enter Tryz.func4, Tryz.ntmps4
    go_wp2
    go_ret
    exact ⟨ret_bool hf.out.symm, bl⟩
  have d3 : ¬ (60 : Int) < (ak : Int) := by omega
  by_cases h4 : 60 < qk
  · have d4 : (60 : Int) < (qk : Int) := by omega
    have hf := hid (show bigB cn pn ak qk = true from decide_eq_true (by omega))
    go_enter Tryz.func4, Tryz.ntmps4
    go_wp2
    go_ret
    exact ⟨ret_bool hf.out.symm, bl⟩
  have d4 : ¬ (60 : Int) < (qk : Int) := by omega
  have hf := hid (show bigB cn pn ak qk = false from decide_eq_false (by omega))
  go_enter Tryz.func4, Tryz.ntmps4
  go_wp2
  go_ret
  exact ⟨ret_bool hf.out.symm, bl⟩

end Go.Proofs.YtilncacmkfohdaaGreat
