/- Jobs that start only where they may: sums of cores in plain numbers, what stays within its limits. -/
import Derived.Test.YtilncacmkfohdaaUse
namespace Go.Proofs.Ytilncacmkfohdaa
open Go.RowKit

/-- Who lies below an account is one of the accounts, and has it on its path. -/
theorem below_is {A : List Acc} {n m : ByteArray} : m ∈ belowP A n ↔ n ∈ pathP A m := by
  constructor
  · intro h
    unfold belowP at h
    exact has_is.1 (List.mem_filter.1 h).2
  · intro h
    cases hf : fi A m with
    | none => rw [path_no hf] at h; cases h
    | some i => exact (below_mem hf).2 h

theorem on_is {A : List Acc} {n : ByteArray} {s : Spc} : onP A n s = true ↔ n ∈ pathP A s.acct := by
  unfold onP
  rw [has_is, below_is]

/-- What stands on the path of one that stands on a path. -/
theorem path_trans {A : List Acc} (hR : rightB A = true) (i : Nat) : ∀ m b n, fi A m = some i → b ∈ pathP A m → n ∈ pathP A b → n ∈ pathP A m := by
  induction i using Nat.strongRecOn with
  | _ i ih =>
    intro m b n h hb hn
    rw [path_step hR h] at hb
    rcases List.mem_cons.1 hb with rfl | hb
    · exact hn
    · cases e : fi A (accAt A i).2.1 with
      | none => rw [path_no e] at hb; cases hb
      | some j =>
        have hj := right_up hR (fi_lt h) e
        rw [path_step hR h]
        exact List.mem_cons_of_mem _ (ih j hj _ b n e hb hn)

theorem on_up {A : List Acc} (hR : rightB A = true) {n b : ByteArray} (h : b ∈ belowP A n) (s : Spc) (hs : onP A b s = true) : onP A n s = true := by
  rw [below_is] at h
  rw [on_is] at hs ⊢
  cases hf : fi A s.acct with
  | none => rw [path_no hf] at hs; cases hs
  | some i => exact path_trans hR i s.acct b n hf hs h

end Go.Proofs.Ytilncacmkfohdaa
