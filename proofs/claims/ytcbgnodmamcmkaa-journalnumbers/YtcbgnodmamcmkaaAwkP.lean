/- The plain journals of awake. -/
import Derived.Test.YtcbgnodmamcmkaaOpen
import Derived.Test.YtcbgnodmamcmkaaSameR
import Derived.Test.YtcbgnodmamcmkaaLog
namespace Go.Proofs.Ytcbgnodmamcmkaa
open Go.RowKit

def J0 : Jr := ⟨Dsk.new, 0, 0, 2, false⟩
def J1 : Jr := J0.ap 7 [97]
def J2 : Jr := J1.ap 7 [98]
def J3 : Jr := J2.sy
def J4 : Jr := J3.ap 7 [99]
def D5 : Dsk := J4.d.crashD 0 5
def D6 : Dsk := D5.csD 36

theorem state_nil : ¬ IsState [] := fun h => by have := h.1.four; simp at this
theorem stAt_none {d : Dsk} (h1 : d.cur 1 = []) (h2 : d.cur 2 = []) : stAt d 2 = none := by
  have e1 : stAt d 1 = none := stAt_leave (j := 0) (by rw [Nat.zero_add, h1]; exact state_nil)
  have e2 : stAt d 2 = stAt d 1 := stAt_leave (j := 1) (by show ¬ IsState (d.cur 2); rw [h2]; exact state_nil)
  rw [e2, e1]
theorem op_none {d : Dsk} (h1 : d.cur 1 = []) (h2 : d.cur 2 = []) : opNum d = 0 ∧ opFile d = 2 ∧ opBody d = [] := by
  unfold opNum opFile opBody
  rw [stAt_none h1 h2]
  exact ⟨rfl, rfl, rfl⟩
theorem ps_new : opPs Dsk.new = [] := poss_no _ _ _ _ (fun h => by have := h.1.four; simp [Dsk.new] at this)

set_option maxRecDepth 100000
theorem a1 : J0.apE 7 [97] = 0 ∧ J0.apN 7 [97] = 1 := by decide
theorem a2 : J1.apE 7 [98] = 0 ∧ J1.apN 7 [98] = 2 := by decide
theorem a3 : J2.syE = 0 := by decide
theorem a4 : J3.apE 7 [99] = 0 ∧ J3.apN 7 [99] = 3 := by decide
theorem few : J0.d.ops.length ≤ 1000000 ∧ J1.d.ops.length ≤ 1000000 ∧ J2.d.ops.length ≤ 1000000 ∧ J3.d.ops.length ≤ 1000000 ∧ J4.d.ops.length ≤ 1000000 ∧ D5.ops.length + 1 ≤ 1000000 := by decide
theorem d5 : D5.cur 0 = logB 1 [(7, [97]), (7, [98])] ++ [0, 0, 0, 10, 0] ∧ D5.cur 1 = [] ∧ D5.cur 2 = [] ∧ D5.down = false := by
  refine ⟨by kernel_rfl, by kernel_rfl, by kernel_rfl, by kernel_rfl⟩
theorem d5len : (D5.cur 0).length = 41 := by rw [d5.1]; simp [logB, entB_len]
theorem ps5 : opPs D5 = [0, 18] := by
  unfold opPs
  rw [d5len, d5.1]
  refine poss_log [(7, [97]), (7, [98])] 42 1 0 [] [0, 0, 0, 10, 0] ?_ (by omega) (by simp) (.inl rfl) (by simp) ?_
  · intro r hr
    simp at hr
    rcases hr with rfl | rfl <;> simp
  · intro h
    have := h.1.sum4
    simp [logB, entB_len] at this
    omega
theorem h50 : Holds (D5.cur 0) 0 1 7 [97] := ⟨[], entB 2 7 [98] ++ [0, 0, 0, 10, 0], by rw [d5.1]; simp [logB, List.append_assoc], rfl⟩
theorem h51 : Holds (D5.cur 0) 18 2 7 [98] := ⟨entB 1 7 [97], [0, 0, 0, 10, 0], by rw [d5.1]; simp [logB, List.append_assoc], by rw [entB_len]; rfl⟩
theorem stop5 : stopP (D5.cur 0) (opPs D5) = 36 := by
  rw [ps5]
  show endAt (D5.cur 0) 18 = 36
  rw [h51.stop (by simp)]
  rfl
theorem cs5 : D5.csE (36 : Nat) = 0 := by kernel_rfl
theorem d6 : D6.readE 0 = 0 ∧ (D6.readB 0).length = 36 := ⟨by kernel_rfl, by kernel_rfl⟩
theorem cr5 : Dsk.crashE 0 5 = 0 := by decide
end Go.Proofs.Ytcbgnodmamcmkaa
