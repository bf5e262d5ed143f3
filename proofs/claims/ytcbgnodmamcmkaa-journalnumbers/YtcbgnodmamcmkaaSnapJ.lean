/- Snapshot of a journal, whatever stops it. -/
import Derived.Test.YtcbgnodmamcmkaaSnap
namespace Go.Proofs.Ytcbgnodmamcmkaa
open Go.RowKit

theorem snapshot_j (base g p : Nat) (x : Dx) (j : Jr) (a : Option Addr) (len cap : Nat) (body : List UInt8) (w : World) (h : JIs base w g p x j) (hbase : base ≤ w.heap.size) (hn : j.d.ops.length + 6 ≤ 1000000) (hl : body.length = len) (hat : At w a body) :
    Calls Try.prog 14 #[.pointer (some ⟨g, 0, none⟩), .slice a len cap] w fun e w' => e = .returned (.int .i64 (j.snE body)) ∧ JNow base w w' g p x (j.sn body) := by
  obtain ⟨d, l, s, f, b⟩ := j
  have bl := below_lit w (.cells #[.pointer (some ⟨g, 0, none⟩)] 31)
  have hu := usable_blk g _ _ _ _ _ _ (h.blk.below bl)
  unfold Jr.sn Jr.snE Jr.snQ Jr.snD
  simp only at *
  cases b with
  | true =>
    rw [if_pos rfl] at hu ⊢
    simp only [Bool.true_or, if_true]
    replace hl := hid hl
    go_enter Try.func14, Try.ntmps14
    go_wp2_with fail
    refine hu.mono ?_
    rintro e w1 ⟨rfl, rfl⟩
    go_wp2
    go_ret
    exact ⟨rfl, JNow.same h bl⟩
  | false =>
    rw [if_neg (by simp)] at hu
    simp only [Bool.false_or, Bool.false_eq_true, if_false]
    by_cases h6 : 1048559 < body.length
    · simp only [if_pos h6, decide_eq_true h6, if_true]
      have hd : decide ((1048559 : Int) < (len : Int)) = true := by simp; omega
      replace hl := hid hl
      go_enter Try.func14, Try.ntmps14
      go_wp2_with fail
      refine hu.mono ?_
      rintro e w1 ⟨rfl, rfl⟩
      go_wp2
      go_ret
      exact ⟨rfl, JNow.same h bl⟩
    · simp only [if_neg h6, decide_eq_false h6, Bool.false_eq_true, if_false]
      refine (snap_go base g p x d l s f (Jr.oth ⟨d, l, s, f, false⟩) a len cap body _ _ w h hbase hn hl (by omega) hat rfl rfl rfl).mono ?_
      rintro e w' ⟨rfl, hj⟩
      exact ⟨rfl, hj⟩

end Go.Proofs.Ytcbgnodmamcmkaa
