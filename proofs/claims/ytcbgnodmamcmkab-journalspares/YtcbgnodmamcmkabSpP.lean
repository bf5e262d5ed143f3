/- The plain journal of JournalSpares: one record in it. -/
import Derived.Test.YtcbgnodmamcmkabAwkP
namespace Go.Proofs.Ytcbgnodmamcmkab
open Go.RowKit

section
variable {body : List UInt8}

theorem sp_apE (h : body.length ≤ 3000) : J0.apE 1 body = 0 := by
  unfold Jr.apE
  rw [if_neg (by decide), if_neg (by decide), if_neg (by decide), if_neg (by omega)]
  unfold Dsk.appE
  rw [if_neg (by decide), if_neg (by rw [entB_len]; show ¬ 1048576 < ([] : List UInt8).length + _; simp; omega)]
  rfl

theorem sp_ap (h : body.length ≤ 3000) : J0.ap 1 body = ⟨Dsk.new.appD 0 (entB 1 1 body), 1, 0, 2, false⟩ := by
  unfold Jr.ap
  rw [if_neg, if_pos (sp_apE h)]
  · rfl
  · unfold Jr.apQ
    have : decide (65536 < body.length) = false := decide_eq_false (by omega)
    rw [this]
    decide

theorem sp_apN (h : body.length ≤ 3000) : J0.apN 1 body = 1 := by unfold Jr.apN; rw [if_pos (sp_apE h)]; rfl

theorem sp_disk (h : body.length ≤ 3000) : Dsk.new.appD 0 (entB 1 1 body) = Dsk.new.went.note ⟨0, true, entB 1 1 body, 0⟩ := by
  unfold Dsk.appD
  rw [if_neg (by decide), if_neg (by rw [entB_len]; show ¬ 1048576 < ([] : List UInt8).length + _; simp; omega), if_neg (by decide)]
  rfl

theorem sp_cur (h : body.length ≤ 3000) : (Dsk.new.appD 0 (entB 1 1 body)).cur 0 = entB 1 1 body ∧ (Dsk.new.appD 0 (entB 1 1 body)).cur 1 = [] ∧ (Dsk.new.appD 0 (entB 1 1 body)).cur 2 = [] ∧ (Dsk.new.appD 0 (entB 1 1 body)).down = false := by
  rw [sp_disk h]
  refine ⟨?_, ?_, ?_, ?_⟩
  · simp [Dsk.note, Dsk.went, Dsk.new, apply, Ch.on]
  · simp [Dsk.note, Dsk.went, Dsk.new, apply]
  · simp [Dsk.note, Dsk.went, Dsk.new, apply]
  · simp [Dsk.note, Dsk.went, Dsk.new]

theorem sp_poss (h : body.length ≤ 3000) (f : Nat) (hf : 1 < f) : poss (entB 1 1 body) f 0 0 = [0] := by
  have := poss_log [(1, body)] f 1 0 [] [] (fun r hr => by simp at hr; rw [hr]; show body.length ≤ 65536; omega) (by omega) (by simp) (.inl rfl) (by simpa using hf) (fun h => by
    have := h.1.four
    simp [logB, entB_len] at this
    omega)
  simpa [logB, logP] using this
theorem sp_holds : Holds (entB 1 1 body) 0 1 1 body := ⟨[], [], by simp, rfl⟩
end
end Go.Proofs.Ytcbgnodmamcmkab
