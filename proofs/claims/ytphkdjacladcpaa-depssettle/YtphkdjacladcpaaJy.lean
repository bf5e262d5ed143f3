/- What follows of a job that begins, or is finished: plain. -/
import Derived.Test.YtphkdjacladcpaaJw
import Derived.Test.YtphkdjacladcpaaJu
namespace Go.Proofs.Ytphkdjacladcpaa
open Go.RowKit
set_option linter.unusedVariables false
set_option linter.unusedSimpArgs false

theorem begin_zero {j : Job} {on now : Int} (h : beginE j on now = 0) : rightB j = true ∧ ((Nd.cnt on.toNat : Nat) : Int) = j.s.nodes ∧ j.sub ≤ now ∧ now ≤ MT ∧ j.st = 1 := by
  unfold beginE at h
  split at h
  · rename_i h1
    split at h
    · rename_i h2
      exact ⟨h1.1, h1.2.1, h1.2.2.1, h1.2.2.2, h2⟩
    · cases h
  · cases h
theorem fin_zero {j : Job} {s now : Int} (h : finE j s now = 0) : rightB j = true ∧ sinceP j ≤ now ∧ now ≤ MT ∧ overB s = true ∧ folB j.st s = true := by
  unfold finE at h
  split at h
  · rename_i h1
    split at h
    · rename_i h2
      have h3 := h1.2
      unfold ord3 at h3
      simp only [Bool.and_eq_true, decide_eq_true_eq] at h3
      exact ⟨h1.1, h3.1, h3.2, h2.1, h2.2⟩
    · cases h
  · cases h
theorem fit_one {j : Job} (h : fitB j = true) (e : j.st = 1) : j.beg = 0 ∧ j.fin = 0 ∧ j.on = 0 ∧ j.exit = 0 := by
  unfold fitB at h
  rw [if_pos e] at h
  simp only [Bool.and_eq_true, decide_eq_true_eq] at h
  exact ⟨h.1.1.1, h.1.1.2, h.1.2, h.2⟩
theorem fit_two {j : Job} (h : fitB j = true) (e : j.st = 2) : ((Nd.cnt j.on.toNat : Nat) : Int) = j.s.nodes ∧ j.sub ≤ j.beg ∧ j.beg ≤ MT ∧ j.fin = 0 ∧ j.exit = 0 := by
  unfold fitB hasN ord3 at h
  rw [if_neg (by omega), if_pos e] at h
  simp only [Bool.and_eq_true, decide_eq_true_eq] at h
  exact ⟨h.1.1.1, h.1.1.2.1, h.1.1.2.2, h.1.2, h.2⟩
theorem begun_right {j : Job} {on now : Int} (h : beginE j on now = 0) (x : Option Addr) (y : Nat) : rightB ((begun j on now).re x y) = true := by
  obtain ⟨h1, h2, h3, h4, h5⟩ := begin_zero h
  obtain ⟨ha, hf⟩ := (right_is j).1 h1
  obtain ⟨f1, f2, f3, f4⟩ := fit_one hf h5
  refine (right_is _).2 ⟨ha, ?_⟩
  show (if (2 : Int) = 1 then _ else if (2 : Int) = 2 then (hasN on j.s.nodes && ord3 j.sub now MT && decide (j.fin = 0) && decide (j.exit = 0)) else _) = true
  rw [if_neg (by omega), if_pos rfl]
  unfold hasN ord3
  simp only [Bool.and_eq_true, decide_eq_true_eq]
  exact ⟨⟨⟨h2, h3, h4⟩, f2⟩, f4⟩
theorem cnt_zero : Nd.cnt 0 = 0 := by kernel_rfl
theorem over_iff (s : Int) : overB s = true ↔ 3 ≤ s ∧ s ≤ 8 := by unfold overB; simp only [Bool.and_eq_true, decide_eq_true_eq]
theorem fol_iff (a b : Int) : folB a b = true ↔ ((b = 2 ∨ b = 8) ∧ a = 1) ∨ (b = 6 ∧ (a = 1 ∨ a = 2)) ∨ ((b = 3 ∨ b = 4 ∨ b = 5 ∨ b = 7) ∧ a = 2) := by
  unfold folB
  repeat' split
  all_goals (simp only [decide_eq_true_eq, Bool.false_eq_true, false_iff]; omega)
theorem fini_right {j : Job} {s now : Int} (x : Int) (h : finE j s now = 0) (u : Option Addr) (v : Nat) : rightB ((fini j s x now).re u v) = true := by
  obtain ⟨h1, h2, h3, h4, h5⟩ := fin_zero h
  obtain ⟨ha, hf⟩ := (right_is j).1 h1
  refine (right_is _).2 ⟨ha, ?_⟩
  rw [over_iff] at h4
  rw [fol_iff] at h5
  have key : fitB ((fini j s x now).re u v) = (if s = 1 then decide (j.beg = 0) && decide (now = 0) && decide (j.on = 0) && decide (exP s x = 0)
    else if s = 2 then hasN j.on j.s.nodes && ord3 j.sub j.beg MT && decide (now = 0) && decide (exP s x = 0)
    else if s = 8 ∨ (s = 6 ∧ j.on = 0) then decide (j.on = 0) && ord3 j.sub now MT && decide (j.beg = 0) && decide (exP s x = 0)
    else if overB s = true then hasN j.on j.s.nodes && ord4 j.sub j.beg now MT && (decide (exP s x ≠ 0) == decide (s = 4))
    else false) := rfl
  rw [key, if_neg (by omega), if_neg (by omega)]
  by_cases e1 : j.st = 1
  · obtain ⟨f1, f2, f3, f4⟩ := fit_one hf e1
    have hs : sinceP j = j.sub := by unfold sinceP; rw [if_neg (by omega)]
    rw [hs] at h2
    have hx : exP s x = 0 := by unfold exP; rw [if_neg (by omega)]
    rw [if_pos (by omega)]
    unfold ord3
    simp only [Bool.and_eq_true, decide_eq_true_eq]
    exact ⟨⟨⟨f3, h2, h3⟩, f1⟩, hx⟩
  · have e2 : j.st = 2 := by omega
    obtain ⟨f1, f2, f3, f4, f5⟩ := fit_two hf e2
    have hs : sinceP j = j.beg := by unfold sinceP; rw [if_pos e2]
    rw [hs] at h2
    have hon : j.on ≠ 0 := by
      intro e
      rw [e] at f1
      have := ha.2.2.2.2.2.1
      rw [show ((0 : Int)).toNat = 0 from rfl, cnt_zero] at f1
      omega
    rw [if_neg (by omega), if_pos ((over_iff s).2 h4)]
    unfold hasN ord4
    simp only [Bool.and_eq_true, decide_eq_true_eq]
    refine ⟨⟨f1, ⟨f2, h2⟩, h3⟩, ?_⟩
    by_cases h4 : s = 4
    · by_cases hx : x = 0
      · simp [exP, h4, hx]
      · simp [exP, h4, hx]
    · simp [exP, h4]

/-- A turn: nodes, state, exit, time. -/
structure Tn where
  on : Int
  st : Int
  x : Int
  now : Int
def tc (t : Tn) : List Value := [.int .u32 t.on, .int .u8 t.st, .int .i64 t.x, .int .i64 t.now]
theorem tc_len (t : Tn) : (tc t).length = 4 := rfl
theorem tc_all (t : Tn) : (tc t).toArray.all (·.oneCell') = true := by simp [tc, Value.oneCell']

end Go.Proofs.Ytphkdjacladcpaa
