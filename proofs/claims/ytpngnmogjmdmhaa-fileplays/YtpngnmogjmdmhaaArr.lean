/- '==' of two [3]string. -/
import Derived.Test.YtpngnmogjmdmhaaMany
import Derived.ChangeKeysEq
namespace Go.Proofs.Ytpngnmogjmdmhaa
open Go.RowKit

theorem eq_in (w : World) (a b c x y z : ByteArray) : (Op.equalIn 10000 66 (.agg #[.string a, .string b, .string c]) (.agg #[.string x, .string y, .string z])).run Try.prog w = .ok (decide (a.toList = x.toList ∧ b.toList = y.toList ∧ c.toList = z.toList)) w := by
  obtain ⟨i, hi, _⟩ := Option.map_eq_some_iff.1 (show (Try.prog.info? 9).map (·.size) = some 1 by kernel_rfl)
  rw [show (10000 : Nat) = 9999 + 1 from rfl, run_equalIn_array w 9999 _ _ Try.underlying66 hi]
  have hc : Try.prog.cellsOf 9 = 1 := by kernel_rfl
  have e := fun a b => run_equalIn_string (P := Try.prog) w 9998 9 a b Try.underlying9
  have u9 := Try.underlying9
  rw [hc, show List.range 3 = [0, 1, 2] from rfl]
  simp only [Op.eqItems, Sem.run_bind]
  go_simp
  split
  · rename_i h1
    split
    · rename_i h2
      split
      · rename_i h3
        simp [h1, h2, h3]
      · rename_i h3
        simp [h3]
    · rename_i h2
      simp [h2]
  · rename_i h1
    simp [h1]

theorem eq_arr (w : World) (a b c x y z : ByteArray) : (binOp .eql 66 (.agg #[.string a, .string b, .string c]) (.agg #[.string x, .string y, .string z])).run Try.prog w = .ok (.bool (decide (a.toList = x.toList ∧ b.toList = y.toList ∧ c.toList = z.toList))) w := by
  rw [run_eql_struct, eq_in]
  rfl

theorem eq_same (a b c : ByteArray) (w : World) : (binOp .eql 66 (.agg #[.string a, .string b, .string c]) (.agg #[.string a, .string b, .string c])).run Try.prog w = .ok (.bool true) w := by
  rw [eq_arr]
  simp
end Go.Proofs.Ytpngnmogjmdmhaa
