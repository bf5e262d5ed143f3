/- Jobs that start only where they may: sums of cores in plain numbers, what stays within its limits. -/
import Derived.Test.YtflapjehkgefdaaGreatUse
import Derived.Test.YtflapjehkgefdaaGreatRef4
import Derived.Test.YtflapjehkgefdaaGreatPh
import Derived.Test.YtflapjehkgefdaaGreatPe
import Derived.Test.YtflapjehkgefdaaGreatNdNr2
namespace Go.Proofs.YtflapjehkgefdaaGreat
open Go.RowKit

/-- Who lies below an account is one of the accounts, and has it on its path. -/
theorem below_is {A : List Acc} {n m : ByteArray} : m ∈ belowP A n ↔ n ∈ pathP A m := by
  constructor
  · intro h
    unfold belowP at h
    exact has_is.1 (List.mem_filter.1 h).2
  · intro h
    cases hf : fi A m with
    | none => rw [path_no hf] at h; cases h
    | some i => exact (below_mem hf).2 h

theorem on_is {A : List Acc} {n : ByteArray} {s : Spc} : onP A n s = true ↔ n ∈ pathP A s.acct := by
  unfold onP
  rw [has_is, below_is]

/-- What stands on the path of one that stands on a path. -/
theorem path_trans {A : List Acc} (hR : rightB A = true) (i : Nat) : ∀ m b n, fi A m = some i → b ∈ pathP A m → n ∈ pathP A b → n ∈ pathP A m := by
  induction i using Nat.strongRecOn with
  | _ i ih =>
    intro m b n h hb hn
    rw [path_step hR h] at hb
    rcases List.mem_cons.1 hb with rfl | hb
    · exact hn
    · cases e : fi A (accAt A i).2.1 with
      | none => rw [path_no e] at hb; cases hb
      | some j =>
        have hj := right_up hR (fi_lt h) e
        rw [path_step hR h]
        exact List.mem_cons_of_mem _ (ih j hj _ b n e hb hn)

theorem on_up {A : List Acc} (hR : rightB A = true) {n b : ByteArray} (h : b ∈ belowP A n) (s : Spc) (hs : onP A b s = true) : onP A n s = true := by
  rw [below_is] at h
  rw [on_is] at hs ⊢
  cases hf : fi A s.acct with
  | none => rw [path_no hf] at hs; cases hs
  | some i => exact path_trans hR i s.acct b n hf hs h

end Go.Proofs.YtflapjehkgefdaaGreat

namespace Go.Proofs.YtflapjehkgefdaaGreat
open Go.RowKit
set_option linter.unusedVariables false

set_option maxRecDepth 100000 in
set_option maxHeartbeats 400000 in
theorem rqual_any (a : Option Addr) (k c : Nat) (L : List Qu) (n : ByteArray) (w : World) (hn : L.length = k) (hl : k ≤ 4611686018427387904) (hat : QAt w a L) :
    Calls Tryz.prog 62 #[.slice a k c, .string n] w fun e w' => e = .returned (.int .i64 (plV (qi L n))) ∧ w' = w := by
  replace hn := hid hn
  replace hat := hid hat
  go_enter Tryz.func62, Tryz.ntmps62
  go_wp2_with fail
  go_loopw [5] (fun i wr => ∃ j : Nat, j ≤ k ∧ i = .int .i64 (j : Int) ∧ Hid (NoneToQ L n j) ∧ wr = w) (fun i _ => k - (intOf i).toNat)
  case atStart => exact ⟨0, Nat.zero_le _, rfl, hid (fun i hi => by omega), rfl⟩
  case round =>
    obtain ⟨j, hj, rfl, hok, rfl⟩ := hrel
    by_cases hlt : j < k
    · have hjL : j < L.length := by rw [hn.out]; exact hlt
      obtain ⟨b, o, e⟩ := hat.out.place (by omega)
      subst e
      obtain ⟨x0, x1, x2, x3⟩ := hat.out.one hjL
      by_cases hB : (quAt L j).1 = n
      · have hf := hid ((qi_is L n j).2 ⟨hjL, hB, hok.out⟩)
        have he := text_eq hB
        replace hB := hid hB
        replace hok := hid hok
        generalize quAt L j = X at *
        obtain ⟨X0, X1, X2, X3⟩ := X
        dsimp only at *
        go_wp2
        go_ret
        rw [hf.out]
        exact ⟨rfl, rfl⟩
      · have hok2 : Hid (NoneToQ L n (j + 1)) := hid fun i hi => by
          rcases Nat.lt_or_ge i j with h | h
          · exact hok.out i h
          · obtain rfl : i = j := by omega
            exact hB
        have he := text_ne hB
        replace hB := hid hB
        replace hok := hid hok
        generalize quAt L j = X at *
        obtain ⟨X0, X1, X2, X3⟩ := X
        dsimp only at *
        go_wp2_with fail
        go_roundw
        case rel => exact ⟨j + 1, by omega, by go_num, hok2, trivial⟩
        case measure => simp [intOf]; omega
    · have hje : j = k := by omega
      subst hje
      have hf := hid ((qi_no L n).2 (by rw [hn.out]; exact hok.out))
      go_wp2
      go_ret
      rw [hf.out]
      exact ⟨rfl, rfl⟩

/-- A quality whose name does not stand ahead of it. -/
theorem qi_ahead {L : List Qu} {j : Nat} (hj : j < L.length) : qi L (quAt L j).1 = some j ↔ qi (L.take j) (quAt L j).1 = none := by
  rw [qi_is, qi_no]
  constructor
  · rintro ⟨_, _, h⟩ i hi
    rw [List.length_take] at hi
    rw [quAt_take (by omega)]
    exact h i (by omega)
  · intro h
    refine ⟨hj, rfl, fun i hi => ?_⟩
    have := h i (by rw [List.length_take]; omega)
    rwa [quAt_take hi] at this

theorem qual_is {x : ByteArray} {p l m : Int} : qualB (x, p, l, m) = true ↔ nameB x = true ∧ 0 ≤ p ∧ p ≤ 1000 ∧ -1 ≤ l ∧ l ≤ 1073741824 ∧ -1 ≤ m ∧ m ≤ 1073741824 := by
  unfold qualB limB
  simp only [Bool.and_eq_true, decide_eq_true_eq]
  constructor
  · rintro ⟨⟨⟨⟨a, b⟩, c⟩, d, e⟩, f, g⟩; exact ⟨a, b, c, d, e, f, g⟩
  · rintro ⟨a, b, c, d, e, f, g⟩; exact ⟨⟨⟨⟨a, b⟩, c⟩, d, e⟩, f, g⟩

theorem qright_all {L : List Qu} (h : QFitTo L L.length) : qrightB L = decide (1 ≤ L.length ∧ L.length ≤ 8) := by
  by_cases h1 : 1 ≤ L.length ∧ L.length ≤ 8
  · rw [decide_eq_true h1]; exact qright_good h1.1 h1.2 h
  · rw [decide_eq_false h1]; exact qright_no h1

def pv16w0 (g1 g4 qb qo qk qc j : Nat) (X0 : ByteArray) (X1 X2 X3 pl : Int) : List Value := [.pointer (some ⟨g4, 0, none⟩), .string X0, .bool false, .bool true, .bool true, undef, undef, undef, undef, undef, undef, undef, undef, .bool true, .bool true, undef, undef, undef, .bool true, .bool true, undef, undef, undef, .bool true, .bool true, undef, undef, undef, .bool true, .bool true, undef, undef, undef, .bool true, .bool true, undef, undef, undef, .bool true, .bool true, undef, undef, undef, .bool true]

def pv16w1 (g1 g4 qb qo qk qc j : Nat) (X0 : ByteArray) (X1 X2 X3 pl : Int) : List Value := [.pointer (some ⟨g4, 0, none⟩), .string X0, .bool true, .bool false, .bool false, .pointer (some ⟨g1, 3, none⟩), .slice (some ⟨qb, qo, none⟩) qk qc, .int .i64 (j : Int), .slice (some ⟨qb, qo, none⟩) j qc, .pointer (some ⟨g4, 0, none⟩), .string X0, .int .i64 pl, .bool true, .bool true, .bool true, undef, undef, undef, .bool true, .bool true, undef, undef, undef, .bool true, .bool true, undef, undef, undef, .bool true, .bool true, undef, undef, undef, .bool true, .bool true, undef, undef, undef, .bool true, .bool true, undef, undef, undef, .bool true]

def pv16w2 (g1 g4 qb qo qk qc j : Nat) (X0 : ByteArray) (X1 X2 X3 pl : Int) : List Value := [.pointer (some ⟨g4, 0, none⟩), .string X0, .bool true, .bool false, .bool false, .pointer (some ⟨g1, 3, none⟩), .slice (some ⟨qb, qo, none⟩) qk qc, .int .i64 (j : Int), .slice (some ⟨qb, qo, none⟩) j qc, .pointer (some ⟨g4, 0, none⟩), .string X0, .int .i64 pl, .bool false, .bool false, .bool false, .pointer (some ⟨g4, 1, none⟩), .int .i64 X1, .bool true, .bool true, .bool true, undef, undef, undef, .bool true, .bool true, undef, undef, undef, .bool true, .bool true, undef, undef, undef, .bool true, .bool true, undef, undef, undef, .bool true, .bool true, undef, undef, undef, .bool true]

def pv16w3 (g1 g4 qb qo qk qc j : Nat) (X0 : ByteArray) (X1 X2 X3 pl : Int) : List Value := [.pointer (some ⟨g4, 0, none⟩), .string X0, .bool true, .bool false, .bool false, .pointer (some ⟨g1, 3, none⟩), .slice (some ⟨qb, qo, none⟩) qk qc, .int .i64 (j : Int), .slice (some ⟨qb, qo, none⟩) j qc, .pointer (some ⟨g4, 0, none⟩), .string X0, .int .i64 pl, .bool false, .bool false, .bool false, .pointer (some ⟨g4, 1, none⟩), .int .i64 X1, .bool false, .bool false, .bool false, .pointer (some ⟨g4, 1, none⟩), .int .i64 X1, .bool true, .bool true, .bool true, undef, undef, undef, .bool true, .bool true, undef, undef, undef, .bool true, .bool true, undef, undef, undef, .bool true, .bool true, undef, undef, undef, .bool true]

def pv16w4 (g1 g4 qb qo qk qc j : Nat) (X0 : ByteArray) (X1 X2 X3 pl : Int) : List Value := [.pointer (some ⟨g4, 0, none⟩), .string X0, .bool true, .bool false, .bool false, .pointer (some ⟨g1, 3, none⟩), .slice (some ⟨qb, qo, none⟩) qk qc, .int .i64 (j : Int), .slice (some ⟨qb, qo, none⟩) j qc, .pointer (some ⟨g4, 0, none⟩), .string X0, .int .i64 pl, .bool false, .bool false, .bool false, .pointer (some ⟨g4, 1, none⟩), .int .i64 X1, .bool false, .bool false, .bool false, .pointer (some ⟨g4, 1, none⟩), .int .i64 X1, .bool false, .bool false, .bool false, .pointer (some ⟨g4, 2, none⟩), .int .i64 X2, .bool true, .bool true, .bool true, undef, undef, undef, .bool true, .bool true, undef, undef, undef, .bool true, .bool true, undef, undef, undef, .bool true]

def pv16w5 (g1 g4 qb qo qk qc j : Nat) (X0 : ByteArray) (X1 X2 X3 pl : Int) : List Value := [.pointer (some ⟨g4, 0, none⟩), .string X0, .bool true, .bool false, .bool false, .pointer (some ⟨g1, 3, none⟩), .slice (some ⟨qb, qo, none⟩) qk qc, .int .i64 (j : Int), .slice (some ⟨qb, qo, none⟩) j qc, .pointer (some ⟨g4, 0, none⟩), .string X0, .int .i64 pl, .bool false, .bool false, .bool false, .pointer (some ⟨g4, 1, none⟩), .int .i64 X1, .bool false, .bool false, .bool false, .pointer (some ⟨g4, 1, none⟩), .int .i64 X1, .bool false, .bool false, .bool false, .pointer (some ⟨g4, 2, none⟩), .int .i64 X2, .bool false, .bool false, .bool false, .pointer (some ⟨g4, 2, none⟩), .int .i64 X2, .bool true, .bool true, .bool true, undef, undef, undef, .bool true, .bool true, undef, undef, undef, .bool true]

def pv16w6 (g1 g4 qb qo qk qc j : Nat) (X0 : ByteArray) (X1 X2 X3 pl : Int) : List Value := [.pointer (some ⟨g4, 0, none⟩), .string X0, .bool true, .bool false, .bool false, .pointer (some ⟨g1, 3, none⟩), .slice (some ⟨qb, qo, none⟩) qk qc, .int .i64 (j : Int), .slice (some ⟨qb, qo, none⟩) j qc, .pointer (some ⟨g4, 0, none⟩), .string X0, .int .i64 pl, .bool false, .bool false, .bool false, .pointer (some ⟨g4, 1, none⟩), .int .i64 X1, .bool false, .bool false, .bool false, .pointer (some ⟨g4, 1, none⟩), .int .i64 X1, .bool false, .bool false, .bool false, .pointer (some ⟨g4, 2, none⟩), .int .i64 X2, .bool false, .bool false, .bool false, .pointer (some ⟨g4, 2, none⟩), .int .i64 X2, .bool false, .bool false, .bool false, .pointer (some ⟨g4, 3, none⟩), .int .i64 X3, .bool true, .bool true, .bool true, undef, undef, undef, .bool true]

def pv16w7 (g1 g4 qb qo qk qc j : Nat) (X0 : ByteArray) (X1 X2 X3 pl : Int) : List Value := [.pointer (some ⟨g4, 0, none⟩), .string X0, .bool true, .bool false, .bool false, .pointer (some ⟨g1, 3, none⟩), .slice (some ⟨qb, qo, none⟩) qk qc, .int .i64 (j : Int), .slice (some ⟨qb, qo, none⟩) j qc, .pointer (some ⟨g4, 0, none⟩), .string X0, .int .i64 pl, .bool false, .bool false, .bool false, .pointer (some ⟨g4, 1, none⟩), .int .i64 X1, .bool false, .bool false, .bool false, .pointer (some ⟨g4, 1, none⟩), .int .i64 X1, .bool false, .bool false, .bool false, .pointer (some ⟨g4, 2, none⟩), .int .i64 X2, .bool false, .bool false, .bool false, .pointer (some ⟨g4, 2, none⟩), .int .i64 X2, .bool false, .bool false, .bool false, .pointer (some ⟨g4, 3, none⟩), .int .i64 X3, .bool false, .bool false, .bool false, .pointer (some ⟨g4, 3, none⟩), .int .i64 X3, .bool true, .bool true]

def pv16w8 (g1 g4 qb qo qk qc j : Nat) (X0 : ByteArray) (X1 X2 X3 pl : Int) : List Value := [.pointer (some ⟨g4, 0, none⟩), .string X0, .bool true, .bool false, .bool false, .pointer (some ⟨g1, 3, none⟩), .slice (some ⟨qb, qo, none⟩) qk qc, .int .i64 (j : Int), .slice (some ⟨qb, qo, none⟩) j qc, .pointer (some ⟨g4, 0, none⟩), .string X0, .int .i64 pl, .bool false, .bool false, .bool false, .pointer (some ⟨g4, 1, none⟩), .int .i64 X1, .bool false, .bool false, .bool false, .pointer (some ⟨g4, 1, none⟩), .int .i64 X1, .bool false, .bool false, .bool false, .pointer (some ⟨g4, 2, none⟩), .int .i64 X2, .bool false, .bool false, .bool false, .pointer (some ⟨g4, 2, none⟩), .int .i64 X2, .bool false, .bool false, .bool false, .pointer (some ⟨g4, 3, none⟩), .int .i64 X3, .bool false, .bool false, .bool false, .pointer (some ⟨g4, 3, none⟩), .int .i64 X3, .bool false, .bool false]


set_option maxRecDepth 100000 in
set_option maxHeartbeats 8000000 in
theorem rconf_any (ca pa aa qa : Option Addr) (cn cc pn pc ak az qk qc : Nat) (pol : Int) (A : List Acc) (Q : List Qu) (w : World) (hA : A.length = ak) (hac : ak ≤ az) (hQ : Q.length = qk) (hqc : qk ≤ qc) (hal : ak ≤ 4611686018427387904) (hql : qk ≤ 4611686018427387904) (hsA : Sized A) (hsQ : ∀ x ∈ Q, x.1.size ≤ 9223372036854775807) (hatA : AAt w aa A) (hatQ : QAt w qa Q) :
    Calls Tryz.prog 42 #[.agg #[.slice ca cn cc, .slice pa pn pc, .slice aa ak az, .slice qa qk qc, .int .u8 pol]] w fun e w' => e = .returned (.bool (confB A Q)) ∧ Below w.heap.size w w' := by
  obtain ⟨W0, hW0⟩ : ∃ W0, W0 = w.alloc (.cells #[.slice ca cn cc, .slice pa pn pc, .slice aa ak az, .slice qa qk qc, .int .u8 pol] 28) := ⟨_, rfl⟩
  have bl := below_lit w (.cells #[.slice ca cn cc, .slice pa pn pc, .slice aa ak az, .slice qa qk qc, .int .u8 pol] 28)
  have v2 := lit_cell w 28 #[.slice ca cn cc, .slice pa pn pc, .slice aa ak az, .slice qa qk qc, .int .u8 pol] 2 (.slice aa ak az) rfl
  have v3 := lit_cell w 28 #[.slice ca cn cc, .slice pa pn pc, .slice aa ak az, .slice qa qk qc, .int .u8 pol] 3 (.slice qa qk qc) rfl
  rw [← hW0] at bl v2 v3
  have kA := fun wx (hb : Below w.heap.size w wx) => rright_any aa ak az A wx hA hal hac hsA (hatA.below hb)
  replace hA := hid hA
  replace hQ := hid hQ
  replace hatA := hid hatA
  replace hatQ := hid hatQ
  replace hsA := hid hsA
  replace hsQ := hid hsQ
  replace v2 := hid v2
  replace v3 := hid v3
  go_enter Tryz.func42, Tryz.ntmps42
  go_wp2_with fail
  rw [← hW0]
  replace hW0 := hid hW0
  go_loopw [3] (fun i wr => ∃ j : Nat, j ≤ qk ∧ i = .int .i64 (j : Int) ∧ Hid (QFitTo Q j) ∧ Below W0.heap.size W0 wr) (fun i _ => qk - (intOf i).toNat)
  case atStart => exact ⟨0, Nat.zero_le _, rfl, hid (fun i hi => by omega), Below.refl _ _⟩
  case round =>
    obtain ⟨j, hj, rfl, hok, hb⟩ := hrel
    have Bw := bnext bl hb
    have z3 := stay hb v3.out
    by_cases hlt : j < qk
    · have hjQ : j < Q.length := by rw [hQ.out]; exact hlt
      obtain ⟨qb, qo, e⟩ := hatQ.out.place (by omega)
      subst e
      obtain ⟨x0, x1, x2, x3⟩ := (hatQ.out.below Bw).one hjQ
      have hc0 : ¬ qc = 0 := by omega
      have hjc : (j : Int) ≤ (qc : Int) := by omega
      have hjk : (j : Int) ≤ (qk : Int) := by omega
      have hj0 : (0 : Int) ≤ (j : Int) := by omega
      have hxs := hsQ.out (quAt Q j) (by rw [← quAt_eq hjQ]; exact List.getElem_mem hjQ)
      have kN := fun w => rname_any (quAt Q j).1 hxs w
      have bl2 := below_lit wr (.cells #[.string (quAt Q j).1, .int .i64 (quAt Q j).2.1, .int .i64 (quAt Q j).2.2.1, .int .i64 (quAt Q j).2.2.2] 64)
      have kQ := fun wx (h : Below (wr.alloc (.cells #[.string (quAt Q j).1, .int .i64 (quAt Q j).2.1, .int .i64 (quAt Q j).2.2.1, .int .i64 (quAt Q j).2.2.2] 64)).heap.size (wr.alloc (.cells #[.string (quAt Q j).1, .int .i64 (quAt Q j).2.1, .int .i64 (quAt Q j).2.2.1, .int .i64 (quAt Q j).2.2.2] 64)) wx) => rqual_any (some ⟨qb, qo, none⟩) j qc (Q.take j) (quAt Q j).1 wx (by rw [List.length_take]; omega) (by omega) ((hatQ.out.below (bnext Bw (bnext bl2 h))).take j)
      have hbad := hid (fun (h : ¬ (qi Q (quAt Q j).1 = some j ∧ qualB (quAt Q j) = true)) => show confB A Q = false by unfold confB; rw [qright_bad hjQ h]; simp)
      have hgood := hid (fun (h : qi Q (quAt Q j).1 = some j ∧ qualB (quAt Q j) = true) => show QFitTo Q (j + 1) from fun i hi => by
        rcases Nat.lt_or_ge i j with h3 | h3
        · exact hok.out i h3
        · obtain rfl : i = j := by omega
          exact h)
      rw [qi_ahead hjQ] at hbad hgood
      have hpl : ∀ r : Option Nat, (r = none → decide (0 ≤ plV r) = false) ∧ (¬ r = none → decide (0 ≤ plV r) = true) := fun r => by
        cases r with
        | none => exact ⟨fun _ => rfl, fun h => absurd rfl h⟩
        | some i => exact ⟨fun h => (by cases h), fun _ => decide_eq_true (by simp only [plV]; omega)⟩
      have hp := hpl (qi (Q.take j) (quAt Q j).1)
      clear hpl
      generalize qi (Q.take j) (quAt Q j).1 = r at *
      generalize quAt Q j = X at *
      obtain ⟨X0, X1, X2, X3⟩ := X
      dsimp only at *
      have hqi := hid (qual_is (x := X0) (p := X1) (l := X2) (m := X3))
      generalize plV r = pl at *
      have y0 := lit_cell wr 64 #[.string X0, .int .i64 X1, .int .i64 X2, .int .i64 X3] 0 _ rfl
      have y1 := lit_cell wr 64 #[.string X0, .int .i64 X1, .int .i64 X2, .int .i64 X3] 1 _ rfl
      have y2 := lit_cell wr 64 #[.string X0, .int .i64 X1, .int .i64 X2, .int .i64 X3] 2 _ rfl
      have y3 := lit_cell wr 64 #[.string X0, .int .i64 X1, .int .i64 X2, .int .i64 X3] 3 _ rfl
      have z4 := stay bl2 z3
      obtain ⟨W1, hW1⟩ : ∃ W1, W1 = wr.alloc (.cells #[.string X0, .int .i64 X1, .int .i64 X2, .int .i64 X3] 64) := ⟨_, rfl⟩
      rw [← hW1] at bl2 kQ y0 y1 y2 y3 z4
      have b2 := bnext hb bl2
      have B2 := bnext bl b2
      clear hxs
      replace kN := hid kN
      replace kQ := hid kQ
      replace y0 := hid y0
      replace y1 := hid y1
      replace y2 := hid y2
      replace y3 := hid y3
      replace z4 := hid z4
      replace hp := hid hp
      go_wp2_with fail
      rw [← hW1]
      replace hW1 := hid hW1
      replace kN := kN.out
      replace kQ := kQ.out
      replace y0 := y0.out
      replace y1 := y1.out
      replace y2 := y2.out
      replace y3 := y3.out
      clear z3
      have z3 := z4.out
      clear x0 x1 x2 x3
      generalize hg1 : w.heap.size = g1 at z3 ⊢
      generalize hg4 : wr.heap.size = g4 at y0 y1 y2 y3 ⊢
      cases hN : nameB X0 with
      | false =>
        rw [hN] at kN
        have hb0 := hN
        refine wp_region_drawn (Rel := fun w w' => Below w.heap.size w w') (Pr := PrV (pv16w0 g1 g4 qb qo qk qc j X0 X1 X2 X3 pl) [] (fun _ _ _ => True)) (by kernel_rfl) (by kernel_rfl) (drew_below _) bel_tr (PrV.mono (fun _ _ _ _ _ _ => trivial)) ?_ ?_
        · refine ⟨?_, ?_, ?_, ?_, ?_, ?_, ?_, ?_, ?_, ?_, ?_, ?_, ?_, ?_, ?_, ?_, ?_, ?_, ?_, ?_, ?_, ?_, ?_, ?_, ?_, ?_, ?_, ?_, ?_, ?_, ?_, ?_, ?_, ?_, ?_, ?_, ?_, ?_, ?_, ?_, ?_, ?_, ?_, ?_, trivial⟩
          · intro ac w hR hd hk K hK
            have e4 : ac.tmps[4]?.getD undef = (.pointer (some ⟨g4, 0, none⟩) : Value) := slot (get_keep (hk 4 (no_dst (by kernel_rfl))) rfl)
            refine yes (want_n rfl) ?_
            have hv := hid (hK (.pointer (some ⟨g4, 0, none⟩)) w (PrV.is rfl rfl) (Below.refl _ _))
            go_simp
            refine kq hv.out ?_
            rfl
          · intro ac w hR hd hk K hK
            have e17 : ac.tmps[17]?.getD undef = (.pointer (some ⟨g4, 0, none⟩) : Value) := slot ((hd 0 _ 17 rfl rfl rfl).val rfl)
            have x0 := stay hR y0
            refine yes (want_n rfl) ?_
            have hv := hid (hK (.string X0) w (PrV.is rfl rfl) (Below.refl _ _))
            go_simp
            refine kq hv.out ?_
            rfl
          · exact fun ac w hR hd hk K hK => yes (want_n rfl) (wp_callv 44 _ _ rfl _ Tryz.func44 rfl rfl _ (args1 ((hd 1 _ 18 rfl rfl rfl).val rfl)) (kN w) (by rintro e w' ⟨rfl, hb⟩; exact ⟨_, rfl, hK _ w' (PrV.is rfl rfl) (by subst hb; exact Below.refl _ _)⟩))
          · intro ac w hR hd hk K hK
            have e19 : ac.tmps[19]?.getD undef = (.bool false : Value) := slot ((hd 2 _ 19 rfl rfl rfl).val rfl)
            refine yes (want_n rfl) ?_
            have hv := hid (hK (.bool true) w (PrV.is rfl rfl) (Below.refl _ _))
            go_simp
            refine kq hv.out ?_
            rfl
          · exact fun ac w hR hd hk K hK => yes (want_n rfl) (wp_mv _ rfl _ ((hd 3 _ 20 rfl rfl rfl).val rfl) (hK _ w (PrV.is rfl rfl) (Below.refl _ _)))
          · exact fun ac w hR hd hk K hK => nope (want_f rfl rfl ((hd 4 _ 21 rfl rfl rfl).val rfl) (by decide)) (hK _ w (PrV.is rfl rfl) (Below.refl _ _))
          · exact fun ac w hR hd hk K hK => nope (want_f rfl rfl ((hd 4 _ 21 rfl rfl rfl).val rfl) (by decide)) (hK _ w (PrV.is rfl rfl) (Below.refl _ _))
          · exact fun ac w hR hd hk K hK => nope (want_f rfl rfl ((hd 4 _ 21 rfl rfl rfl).val rfl) (by decide)) (hK _ w (PrV.is rfl rfl) (Below.refl _ _))
          · exact fun ac w hR hd hk K hK => nope (want_f rfl rfl ((hd 4 _ 21 rfl rfl rfl).val rfl) (by decide)) (hK _ w (PrV.is rfl rfl) (Below.refl _ _))
          · exact fun ac w hR hd hk K hK => nope (want_f rfl rfl ((hd 4 _ 21 rfl rfl rfl).val rfl) (by decide)) (hK _ w (PrV.is rfl rfl) (Below.refl _ _))
          · exact fun ac w hR hd hk K hK => nope (want_f rfl rfl ((hd 4 _ 21 rfl rfl rfl).val rfl) (by decide)) (hK _ w (PrV.is rfl rfl) (Below.refl _ _))
          · exact fun ac w hR hd hk K hK => nope (want_f rfl rfl ((hd 4 _ 21 rfl rfl rfl).val rfl) (by decide)) (hK _ w (PrV.is rfl rfl) (Below.refl _ _))
          · exact fun ac w hR hd hk K hK => nope (want_f rfl rfl ((hd 4 _ 21 rfl rfl rfl).val rfl) (by decide)) (hK _ w (PrV.is rfl rfl) (Below.refl _ _))
          · exact fun ac w hR hd hk K hK => yes (want_n rfl) (wp_pick _ _ _ rfl true _ ((hd 4 _ 21 rfl rfl rfl).val rfl) rfl (hK _ w (PrV.is rfl rfl) (Below.refl _ _)))
          · exact fun ac w hR hd hk K hK => yes (want_n rfl) (wp_mv _ rfl _ ((hd 13 _ 30 rfl rfl rfl).val rfl) (hK _ w (PrV.is rfl rfl) (Below.refl _ _)))
          · exact fun ac w hR hd hk K hK => nope (want_f rfl rfl ((hd 14 _ 31 rfl rfl rfl).val rfl) (by decide)) (hK _ w (PrV.is rfl rfl) (Below.refl _ _))
          · exact fun ac w hR hd hk K hK => nope (want_f rfl rfl ((hd 14 _ 31 rfl rfl rfl).val rfl) (by decide)) (hK _ w (PrV.is rfl rfl) (Below.refl _ _))
          · exact fun ac w hR hd hk K hK => nope (want_f rfl rfl ((hd 14 _ 31 rfl rfl rfl).val rfl) (by decide)) (hK _ w (PrV.is rfl rfl) (Below.refl _ _))
          · exact fun ac w hR hd hk K hK => yes (want_n rfl) (wp_pick _ _ _ rfl true _ ((hd 14 _ 31 rfl rfl rfl).val rfl) rfl (hK _ w (PrV.is rfl rfl) (Below.refl _ _)))
          · exact fun ac w hR hd hk K hK => yes (want_n rfl) (wp_mv _ rfl _ ((hd 18 _ 35 rfl rfl rfl).val rfl) (hK _ w (PrV.is rfl rfl) (Below.refl _ _)))
          · exact fun ac w hR hd hk K hK => nope (want_f rfl rfl ((hd 19 _ 36 rfl rfl rfl).val rfl) (by decide)) (hK _ w (PrV.is rfl rfl) (Below.refl _ _))
          · exact fun ac w hR hd hk K hK => nope (want_f rfl rfl ((hd 19 _ 36 rfl rfl rfl).val rfl) (by decide)) (hK _ w (PrV.is rfl rfl) (Below.refl _ _))
          · exact fun ac w hR hd hk K hK => nope (want_f rfl rfl ((hd 19 _ 36 rfl rfl rfl).val rfl) (by decide)) (hK _ w (PrV.is rfl rfl) (Below.refl _ _))
          · exact fun ac w hR hd hk K hK => yes (want_n rfl) (wp_pick _ _ _ rfl true _ ((hd 19 _ 36 rfl rfl rfl).val rfl) rfl (hK _ w (PrV.is rfl rfl) (Below.refl _ _)))
          · exact fun ac w hR hd hk K hK => yes (want_n rfl) (wp_mv _ rfl _ ((hd 23 _ 40 rfl rfl rfl).val rfl) (hK _ w (PrV.is rfl rfl) (Below.refl _ _)))
          · exact fun ac w hR hd hk K hK => nope (want_f rfl rfl ((hd 24 _ 41 rfl rfl rfl).val rfl) (by decide)) (hK _ w (PrV.is rfl rfl) (Below.refl _ _))
          · exact fun ac w hR hd hk K hK => nope (want_f rfl rfl ((hd 24 _ 41 rfl rfl rfl).val rfl) (by decide)) (hK _ w (PrV.is rfl rfl) (Below.refl _ _))
          · exact fun ac w hR hd hk K hK => nope (want_f rfl rfl ((hd 24 _ 41 rfl rfl rfl).val rfl) (by decide)) (hK _ w (PrV.is rfl rfl) (Below.refl _ _))
          · exact fun ac w hR hd hk K hK => yes (want_n rfl) (wp_pick _ _ _ rfl true _ ((hd 24 _ 41 rfl rfl rfl).val rfl) rfl (hK _ w (PrV.is rfl rfl) (Below.refl _ _)))
          · exact fun ac w hR hd hk K hK => yes (want_n rfl) (wp_mv _ rfl _ ((hd 28 _ 45 rfl rfl rfl).val rfl) (hK _ w (PrV.is rfl rfl) (Below.refl _ _)))
          · exact fun ac w hR hd hk K hK => nope (want_f rfl rfl ((hd 29 _ 46 rfl rfl rfl).val rfl) (by decide)) (hK _ w (PrV.is rfl rfl) (Below.refl _ _))
          · exact fun ac w hR hd hk K hK => nope (want_f rfl rfl ((hd 29 _ 46 rfl rfl rfl).val rfl) (by decide)) (hK _ w (PrV.is rfl rfl) (Below.refl _ _))
          · exact fun ac w hR hd hk K hK => nope (want_f rfl rfl ((hd 29 _ 46 rfl rfl rfl).val rfl) (by decide)) (hK _ w (PrV.is rfl rfl) (Below.refl _ _))
          · exact fun ac w hR hd hk K hK => yes (want_n rfl) (wp_pick _ _ _ rfl true _ ((hd 29 _ 46 rfl rfl rfl).val rfl) rfl (hK _ w (PrV.is rfl rfl) (Below.refl _ _)))
          · exact fun ac w hR hd hk K hK => yes (want_n rfl) (wp_mv _ rfl _ ((hd 33 _ 50 rfl rfl rfl).val rfl) (hK _ w (PrV.is rfl rfl) (Below.refl _ _)))
          · exact fun ac w hR hd hk K hK => nope (want_f rfl rfl ((hd 34 _ 51 rfl rfl rfl).val rfl) (by decide)) (hK _ w (PrV.is rfl rfl) (Below.refl _ _))
          · exact fun ac w hR hd hk K hK => nope (want_f rfl rfl ((hd 34 _ 51 rfl rfl rfl).val rfl) (by decide)) (hK _ w (PrV.is rfl rfl) (Below.refl _ _))
          · exact fun ac w hR hd hk K hK => nope (want_f rfl rfl ((hd 34 _ 51 rfl rfl rfl).val rfl) (by decide)) (hK _ w (PrV.is rfl rfl) (Below.refl _ _))
          · exact fun ac w hR hd hk K hK => yes (want_n rfl) (wp_pick _ _ _ rfl true _ ((hd 34 _ 51 rfl rfl rfl).val rfl) rfl (hK _ w (PrV.is rfl rfl) (Below.refl _ _)))
          · exact fun ac w hR hd hk K hK => yes (want_n rfl) (wp_mv _ rfl _ ((hd 38 _ 55 rfl rfl rfl).val rfl) (hK _ w (PrV.is rfl rfl) (Below.refl _ _)))
          · exact fun ac w hR hd hk K hK => nope (want_f rfl rfl ((hd 39 _ 56 rfl rfl rfl).val rfl) (by decide)) (hK _ w (PrV.is rfl rfl) (Below.refl _ _))
          · exact fun ac w hR hd hk K hK => nope (want_f rfl rfl ((hd 39 _ 56 rfl rfl rfl).val rfl) (by decide)) (hK _ w (PrV.is rfl rfl) (Below.refl _ _))
          · exact fun ac w hR hd hk K hK => nope (want_f rfl rfl ((hd 39 _ 56 rfl rfl rfl).val rfl) (by decide)) (hK _ w (PrV.is rfl rfl) (Below.refl _ _))
          · exact fun ac w hR hd hk K hK => yes (want_n rfl) (wp_pick _ _ _ rfl true _ ((hd 39 _ 56 rfl rfl rfl).val rfl) rfl (hK _ w (PrV.is rfl rfl) (Below.refl _ _)))
        · intro a w5 hdf hsz hkp hval hRw
          obtain ⟨f, hf⟩ : ∃ f, f = fun d => a.tmps.getD d undef := ⟨_, rfl⟩
          have h60 : f 60 = .bool true := by rw [hf]; exact (hval 43 _ 60 rfl rfl).val rfl
          have hfa := act_filled hdf hsz hkp
          rw [← hf] at hfa
          rw [hfa]
          clear hdf hsz hkp hval hfa hf
          clear a
          simp only [fillAll, List.set_cons_zero, List.set_cons_succ, h60]
          clear h60
          have B5 := bnext B2 hRw
          have hf := hid (hbad.out fun h => by have := (hqi.out.1 h.2).1; rw [hb0] at this; cases this)
          subst hg1
          go_wp2
          go_ret
          rw [hf.out]; exact ⟨rfl, B5⟩
      | true =>
        rw [hN] at kN
        have hb0 := hN
        by_cases hr : r = none
        · have e1 := hp.out.1 hr
          by_cases q2 : X1 < 0
          · have e2 : decide (X1 < 0) = true := by simpa using q2
            refine wp_region_drawn (Rel := fun w w' => Below w.heap.size w w') (Pr := PrV (pv16w2 g1 g4 qb qo qk qc j X0 X1 X2 X3 pl) [] (fun _ _ _ => True)) (by kernel_rfl) (by kernel_rfl) (drew_below _) bel_tr (PrV.mono (fun _ _ _ _ _ _ => trivial)) ?_ ?_
            · refine ⟨?_, ?_, ?_, ?_, ?_, ?_, ?_, ?_, ?_, ?_, ?_, ?_, ?_, ?_, ?_, ?_, ?_, ?_, ?_, ?_, ?_, ?_, ?_, ?_, ?_, ?_, ?_, ?_, ?_, ?_, ?_, ?_, ?_, ?_, ?_, ?_, ?_, ?_, ?_, ?_, ?_, ?_, ?_, ?_, trivial⟩
              · intro ac w hR hd hk K hK
                have e4 : ac.tmps[4]?.getD undef = (.pointer (some ⟨g4, 0, none⟩) : Value) := slot (get_keep (hk 4 (no_dst (by kernel_rfl))) rfl)
                refine yes (want_n rfl) ?_
                have hv := hid (hK (.pointer (some ⟨g4, 0, none⟩)) w (PrV.is rfl rfl) (Below.refl _ _))
                go_simp
                refine kq hv.out ?_
                rfl
              · intro ac w hR hd hk K hK
                have e17 : ac.tmps[17]?.getD undef = (.pointer (some ⟨g4, 0, none⟩) : Value) := slot ((hd 0 _ 17 rfl rfl rfl).val rfl)
                have x0 := stay hR y0
                refine yes (want_n rfl) ?_
                have hv := hid (hK (.string X0) w (PrV.is rfl rfl) (Below.refl _ _))
                go_simp
                refine kq hv.out ?_
                rfl
              · exact fun ac w hR hd hk K hK => yes (want_n rfl) (wp_callv 44 _ _ rfl _ Tryz.func44 rfl rfl _ (args1 ((hd 1 _ 18 rfl rfl rfl).val rfl)) (kN w) (by rintro e w' ⟨rfl, hb⟩; exact ⟨_, rfl, hK _ w' (PrV.is rfl rfl) (by subst hb; exact Below.refl _ _)⟩))
              · intro ac w hR hd hk K hK
                have e19 : ac.tmps[19]?.getD undef = (.bool true : Value) := slot ((hd 2 _ 19 rfl rfl rfl).val rfl)
                refine yes (want_n rfl) ?_
                have hv := hid (hK (.bool false) w (PrV.is rfl rfl) (Below.refl _ _))
                go_simp
                refine kq hv.out ?_
                rfl
              · exact fun ac w hR hd hk K hK => yes (want_n rfl) (wp_mv _ rfl _ ((hd 3 _ 20 rfl rfl rfl).val rfl) (hK _ w (PrV.is rfl rfl) (Below.refl _ _)))
              · intro ac w hR hd hk K hK
                have e1 : ac.tmps[1]?.getD undef = (.pointer (some ⟨g1, 0, none⟩) : Value) := slot (get_keep (hk 1 (no_dst (by kernel_rfl))) rfl)
                refine yes (want_g rfl rfl ((hd 4 _ 21 rfl rfl rfl).val rfl)) ?_
                have hv := hid (hK (.pointer (some ⟨g1, 3, none⟩)) w (PrV.is rfl rfl) (Below.refl _ _))
                go_simp
                refine kq hv.out ?_
                rfl
              · intro ac w hR hd hk K hK
                have e22 : ac.tmps[22]?.getD undef = (.pointer (some ⟨g1, 3, none⟩) : Value) := slot ((hd 5 _ 22 rfl rfl rfl).val rfl)
                have x0 := stay hR z3
                refine yes (want_g rfl rfl ((hd 4 _ 21 rfl rfl rfl).val rfl)) ?_
                have hv := hid (hK (.slice (some ⟨qb, qo, none⟩) qk qc) w (PrV.is rfl rfl) (Below.refl _ _))
                go_simp
                refine kq hv.out ?_
                rfl
              · exact fun ac w hR hd hk K hK => yes (want_g rfl rfl ((hd 4 _ 21 rfl rfl rfl).val rfl)) (wp_mv _ rfl _ (get_keep (hk 3 (no_dst (by kernel_rfl))) rfl) (hK _ w (PrV.is rfl rfl) (Below.refl _ _)))
              · intro ac w hR hd hk K hK
                have e23 : ac.tmps[23]?.getD undef = (.slice (some ⟨qb, qo, none⟩) qk qc : Value) := slot ((hd 6 _ 23 rfl rfl rfl).val rfl)
                have e24 : ac.tmps[24]?.getD undef = (.int .i64 (j : Int) : Value) := slot ((hd 7 _ 24 rfl rfl rfl).val rfl)
                have f1 := hjc
                have f2 := hjk
                have f3 := hc0
                have f4 := hj0
                refine yes (want_g rfl rfl ((hd 4 _ 21 rfl rfl rfl).val rfl)) ?_
                have hv := hid (hK (.slice (some ⟨qb, qo, none⟩) j qc) w (PrV.is rfl rfl) (Below.refl _ _))
                go_simp
                refine kq hv.out ?_
                rfl
              · intro ac w hR hd hk K hK
                have e4 : ac.tmps[4]?.getD undef = (.pointer (some ⟨g4, 0, none⟩) : Value) := slot (get_keep (hk 4 (no_dst (by kernel_rfl))) rfl)
                refine yes (want_g rfl rfl ((hd 4 _ 21 rfl rfl rfl).val rfl)) ?_
                have hv := hid (hK (.pointer (some ⟨g4, 0, none⟩)) w (PrV.is rfl rfl) (Below.refl _ _))
                go_simp
                refine kq hv.out ?_
                rfl
              · intro ac w hR hd hk K hK
                have e26 : ac.tmps[26]?.getD undef = (.pointer (some ⟨g4, 0, none⟩) : Value) := slot ((hd 9 _ 26 rfl rfl rfl).val rfl)
                have x0 := stay hR y0
                refine yes (want_g rfl rfl ((hd 4 _ 21 rfl rfl rfl).val rfl)) ?_
                have hv := hid (hK (.string X0) w (PrV.is rfl rfl) (Below.refl _ _))
                go_simp
                refine kq hv.out ?_
                rfl
              · exact fun ac w hR hd hk K hK => yes (want_g rfl rfl ((hd 4 _ 21 rfl rfl rfl).val rfl)) (wp_callv 62 _ _ rfl _ Tryz.func62 rfl rfl _ (args2 ((hd 8 _ 25 rfl rfl rfl).val rfl) ((hd 10 _ 27 rfl rfl rfl).val rfl)) (kQ w hR) (by rintro e w' ⟨rfl, hb⟩; exact ⟨_, rfl, hK _ w' (PrV.is rfl rfl) (by subst hb; exact Below.refl _ _)⟩))
              · intro ac w hR hd hk K hK
                have e28 : ac.tmps[28]?.getD undef = (.int .i64 pl : Value) := slot ((hd 11 _ 28 rfl rfl rfl).val rfl)
                have dd := e1
                refine yes (want_g rfl rfl ((hd 4 _ 21 rfl rfl rfl).val rfl)) ?_
                have hv := hid (hK (.bool false) w (PrV.is rfl rfl) (Below.refl _ _))
                go_simp
                refine kq hv.out ?_
                rfl
              · exact fun ac w hR hd hk K hK => yes (want_n rfl) (wp_pick _ _ _ rfl false _ ((hd 4 _ 21 rfl rfl rfl).val rfl) ((hd 12 _ 29 rfl rfl rfl).val rfl) (hK _ w (PrV.is rfl rfl) (Below.refl _ _)))
              · exact fun ac w hR hd hk K hK => yes (want_n rfl) (wp_mv _ rfl _ ((hd 13 _ 30 rfl rfl rfl).val rfl) (hK _ w (PrV.is rfl rfl) (Below.refl _ _)))
              · intro ac w hR hd hk K hK
                have e4 : ac.tmps[4]?.getD undef = (.pointer (some ⟨g4, 0, none⟩) : Value) := slot (get_keep (hk 4 (no_dst (by kernel_rfl))) rfl)
                refine yes (want_g rfl rfl ((hd 14 _ 31 rfl rfl rfl).val rfl)) ?_
                have hv := hid (hK (.pointer (some ⟨g4, 1, none⟩)) w (PrV.is rfl rfl) (Below.refl _ _))
                go_simp
                refine kq hv.out ?_
                rfl
              · intro ac w hR hd hk K hK
                have e32 : ac.tmps[32]?.getD undef = (.pointer (some ⟨g4, 1, none⟩) : Value) := slot ((hd 15 _ 32 rfl rfl rfl).val rfl)
                have x0 := stay hR y1
                refine yes (want_g rfl rfl ((hd 14 _ 31 rfl rfl rfl).val rfl)) ?_
                have hv := hid (hK (.int .i64 X1) w (PrV.is rfl rfl) (Below.refl _ _))
                go_simp
                refine kq hv.out ?_
                rfl
              · intro ac w hR hd hk K hK
                have e33 : ac.tmps[33]?.getD undef = (.int .i64 X1 : Value) := slot ((hd 16 _ 33 rfl rfl rfl).val rfl)
                have dd := e2
                refine yes (want_g rfl rfl ((hd 14 _ 31 rfl rfl rfl).val rfl)) ?_
                have hv := hid (hK (.bool true) w (PrV.is rfl rfl) (Below.refl _ _))
                go_simp
                refine kq hv.out ?_
                rfl
              · exact fun ac w hR hd hk K hK => yes (want_n rfl) (wp_pick _ _ _ rfl false _ ((hd 14 _ 31 rfl rfl rfl).val rfl) ((hd 17 _ 34 rfl rfl rfl).val rfl) (hK _ w (PrV.is rfl rfl) (Below.refl _ _)))
              · exact fun ac w hR hd hk K hK => yes (want_n rfl) (wp_mv _ rfl _ ((hd 18 _ 35 rfl rfl rfl).val rfl) (hK _ w (PrV.is rfl rfl) (Below.refl _ _)))
              · exact fun ac w hR hd hk K hK => nope (want_f rfl rfl ((hd 19 _ 36 rfl rfl rfl).val rfl) (by decide)) (hK _ w (PrV.is rfl rfl) (Below.refl _ _))
              · exact fun ac w hR hd hk K hK => nope (want_f rfl rfl ((hd 19 _ 36 rfl rfl rfl).val rfl) (by decide)) (hK _ w (PrV.is rfl rfl) (Below.refl _ _))
              · exact fun ac w hR hd hk K hK => nope (want_f rfl rfl ((hd 19 _ 36 rfl rfl rfl).val rfl) (by decide)) (hK _ w (PrV.is rfl rfl) (Below.refl _ _))
              · exact fun ac w hR hd hk K hK => yes (want_n rfl) (wp_pick _ _ _ rfl true _ ((hd 19 _ 36 rfl rfl rfl).val rfl) rfl (hK _ w (PrV.is rfl rfl) (Below.refl _ _)))
              · exact fun ac w hR hd hk K hK => yes (want_n rfl) (wp_mv _ rfl _ ((hd 23 _ 40 rfl rfl rfl).val rfl) (hK _ w (PrV.is rfl rfl) (Below.refl _ _)))
              · exact fun ac w hR hd hk K hK => nope (want_f rfl rfl ((hd 24 _ 41 rfl rfl rfl).val rfl) (by decide)) (hK _ w (PrV.is rfl rfl) (Below.refl _ _))
              · exact fun ac w hR hd hk K hK => nope (want_f rfl rfl ((hd 24 _ 41 rfl rfl rfl).val rfl) (by decide)) (hK _ w (PrV.is rfl rfl) (Below.refl _ _))
              · exact fun ac w hR hd hk K hK => nope (want_f rfl rfl ((hd 24 _ 41 rfl rfl rfl).val rfl) (by decide)) (hK _ w (PrV.is rfl rfl) (Below.refl _ _))
              · exact fun ac w hR hd hk K hK => yes (want_n rfl) (wp_pick _ _ _ rfl true _ ((hd 24 _ 41 rfl rfl rfl).val rfl) rfl (hK _ w (PrV.is rfl rfl) (Below.refl _ _)))
              · exact fun ac w hR hd hk K hK => yes (want_n rfl) (wp_mv _ rfl _ ((hd 28 _ 45 rfl rfl rfl).val rfl) (hK _ w (PrV.is rfl rfl) (Below.refl _ _)))
              · exact fun ac w hR hd hk K hK => nope (want_f rfl rfl ((hd 29 _ 46 rfl rfl rfl).val rfl) (by decide)) (hK _ w (PrV.is rfl rfl) (Below.refl _ _))
              · exact fun ac w hR hd hk K hK => nope (want_f rfl rfl ((hd 29 _ 46 rfl rfl rfl).val rfl) (by decide)) (hK _ w (PrV.is rfl rfl) (Below.refl _ _))
              · exact fun ac w hR hd hk K hK => nope (want_f rfl rfl ((hd 29 _ 46 rfl rfl rfl).val rfl) (by decide)) (hK _ w (PrV.is rfl rfl) (Below.refl _ _))
              · exact fun ac w hR hd hk K hK => yes (want_n rfl) (wp_pick _ _ _ rfl true _ ((hd 29 _ 46 rfl rfl rfl).val rfl) rfl (hK _ w (PrV.is rfl rfl) (Below.refl _ _)))
              · exact fun ac w hR hd hk K hK => yes (want_n rfl) (wp_mv _ rfl _ ((hd 33 _ 50 rfl rfl rfl).val rfl) (hK _ w (PrV.is rfl rfl) (Below.refl _ _)))
              · exact fun ac w hR hd hk K hK => nope (want_f rfl rfl ((hd 34 _ 51 rfl rfl rfl).val rfl) (by decide)) (hK _ w (PrV.is rfl rfl) (Below.refl _ _))
              · exact fun ac w hR hd hk K hK => nope (want_f rfl rfl ((hd 34 _ 51 rfl rfl rfl).val rfl) (by decide)) (hK _ w (PrV.is rfl rfl) (Below.refl _ _))
              · exact fun ac w hR hd hk K hK => nope (want_f rfl rfl ((hd 34 _ 51 rfl rfl rfl).val rfl) (by decide)) (hK _ w (PrV.is rfl rfl) (Below.refl _ _))
              · exact fun ac w hR hd hk K hK => yes (want_n rfl) (wp_pick _ _ _ rfl true _ ((hd 34 _ 51 rfl rfl rfl).val rfl) rfl (hK _ w (PrV.is rfl rfl) (Below.refl _ _)))
              · exact fun ac w hR hd hk K hK => yes (want_n rfl) (wp_mv _ rfl _ ((hd 38 _ 55 rfl rfl rfl).val rfl) (hK _ w (PrV.is rfl rfl) (Below.refl _ _)))
              · exact fun ac w hR hd hk K hK => nope (want_f rfl rfl ((hd 39 _ 56 rfl rfl rfl).val rfl) (by decide)) (hK _ w (PrV.is rfl rfl) (Below.refl _ _))
              · exact fun ac w hR hd hk K hK => nope (want_f rfl rfl ((hd 39 _ 56 rfl rfl rfl).val rfl) (by decide)) (hK _ w (PrV.is rfl rfl) (Below.refl _ _))
              · exact fun ac w hR hd hk K hK => nope (want_f rfl rfl ((hd 39 _ 56 rfl rfl rfl).val rfl) (by decide)) (hK _ w (PrV.is rfl rfl) (Below.refl _ _))
              · exact fun ac w hR hd hk K hK => yes (want_n rfl) (wp_pick _ _ _ rfl true _ ((hd 39 _ 56 rfl rfl rfl).val rfl) rfl (hK _ w (PrV.is rfl rfl) (Below.refl _ _)))
            · intro a w5 hdf hsz hkp hval hRw
              obtain ⟨f, hf⟩ : ∃ f, f = fun d => a.tmps.getD d undef := ⟨_, rfl⟩
              have h60 : f 60 = .bool true := by rw [hf]; exact (hval 43 _ 60 rfl rfl).val rfl
              have hfa := act_filled hdf hsz hkp
              rw [← hf] at hfa
              rw [hfa]
              clear hdf hsz hkp hval hfa hf
              clear a
              simp only [fillAll, List.set_cons_zero, List.set_cons_succ, h60]
              clear h60
              have B5 := bnext B2 hRw
              have hf := hid (hbad.out fun h => by have hh := hqi.out.1 h.2; omega)
              subst hg1
              go_wp2
              go_ret
              rw [hf.out]; exact ⟨rfl, B5⟩
          have e2 : decide (X1 < 0) = false := by simpa using q2
          by_cases q3 : 1000 < X1
          · have e3 : decide (1000 < X1) = true := by simpa using q3
            refine wp_region_drawn (Rel := fun w w' => Below w.heap.size w w') (Pr := PrV (pv16w3 g1 g4 qb qo qk qc j X0 X1 X2 X3 pl) [] (fun _ _ _ => True)) (by kernel_rfl) (by kernel_rfl) (drew_below _) bel_tr (PrV.mono (fun _ _ _ _ _ _ => trivial)) ?_ ?_
            · refine ⟨?_, ?_, ?_, ?_, ?_, ?_, ?_, ?_, ?_, ?_, ?_, ?_, ?_, ?_, ?_, ?_, ?_, ?_, ?_, ?_, ?_, ?_, ?_, ?_, ?_, ?_, ?_, ?_, ?_, ?_, ?_, ?_, ?_, ?_, ?_, ?_, ?_, ?_, ?_, ?_, ?_, ?_, ?_, ?_, trivial⟩
              · intro ac w hR hd hk K hK
                have e4 : ac.tmps[4]?.getD undef = (.pointer (some ⟨g4, 0, none⟩) : Value) := slot (get_keep (hk 4 (no_dst (by kernel_rfl))) rfl)
                refine yes (want_n rfl) ?_
                have hv := hid (hK (.pointer (some ⟨g4, 0, none⟩)) w (PrV.is rfl rfl) (Below.refl _ _))
                go_simp
                refine kq hv.out ?_
                rfl
              · intro ac w hR hd hk K hK
                have e17 : ac.tmps[17]?.getD undef = (.pointer (some ⟨g4, 0, none⟩) : Value) := slot ((hd 0 _ 17 rfl rfl rfl).val rfl)
                have x0 := stay hR y0
                refine yes (want_n rfl) ?_
                have hv := hid (hK (.string X0) w (PrV.is rfl rfl) (Below.refl _ _))
                go_simp
                refine kq hv.out ?_
                rfl
              · exact fun ac w hR hd hk K hK => yes (want_n rfl) (wp_callv 44 _ _ rfl _ Tryz.func44 rfl rfl _ (args1 ((hd 1 _ 18 rfl rfl rfl).val rfl)) (kN w) (by rintro e w' ⟨rfl, hb⟩; exact ⟨_, rfl, hK _ w' (PrV.is rfl rfl) (by subst hb; exact Below.refl _ _)⟩))
              · intro ac w hR hd hk K hK
                have e19 : ac.tmps[19]?.getD undef = (.bool true : Value) := slot ((hd 2 _ 19 rfl rfl rfl).val rfl)
                refine yes (want_n rfl) ?_
                have hv := hid (hK (.bool false) w (PrV.is rfl rfl) (Below.refl _ _))
                go_simp
                refine kq hv.out ?_
                rfl
              · exact fun ac w hR hd hk K hK => yes (want_n rfl) (wp_mv _ rfl _ ((hd 3 _ 20 rfl rfl rfl).val rfl) (hK _ w (PrV.is rfl rfl) (Below.refl _ _)))
              · intro ac w hR hd hk K hK
                have e1 : ac.tmps[1]?.getD undef = (.pointer (some ⟨g1, 0, none⟩) : Value) := slot (get_keep (hk 1 (no_dst (by kernel_rfl))) rfl)
                refine yes (want_g rfl rfl ((hd 4 _ 21 rfl rfl rfl).val rfl)) ?_
                have hv := hid (hK (.pointer (some ⟨g1, 3, none⟩)) w (PrV.is rfl rfl) (Below.refl _ _))
                go_simp
                refine kq hv.out ?_
                rfl
              · intro ac w hR hd hk K hK
                have e22 : ac.tmps[22]?.getD undef = (.pointer (some ⟨g1, 3, none⟩) : Value) := slot ((hd 5 _ 22 rfl rfl rfl).val rfl)
                have x0 := stay hR z3
                refine yes (want_g rfl rfl ((hd 4 _ 21 rfl rfl rfl).val rfl)) ?_
                have hv := hid (hK (.slice (some ⟨qb, qo, none⟩) qk qc) w (PrV.is rfl rfl) (Below.refl _ _))
                go_simp
                refine kq hv.out ?_
                rfl
              · exact fun ac w hR hd hk K hK => yes (want_g rfl rfl ((hd 4 _ 21 rfl rfl rfl).val rfl)) (wp_mv _ rfl _ (get_keep (hk 3 (no_dst (by kernel_rfl))) rfl) (hK _ w (PrV.is rfl rfl) (Below.refl _ _)))
              · intro ac w hR hd hk K hK
                have e23 : ac.tmps[23]?.getD undef = (.slice (some ⟨qb, qo, none⟩) qk qc : Value) := slot ((hd 6 _ 23 rfl rfl rfl).val rfl)
                have e24 : ac.tmps[24]?.getD undef = (.int .i64 (j : Int) : Value) := slot ((hd 7 _ 24 rfl rfl rfl).val rfl)
                have f1 := hjc
                have f2 := hjk
                have f3 := hc0
                have f4 := hj0
                refine yes (want_g rfl rfl ((hd 4 _ 21 rfl rfl rfl).val rfl)) ?_
                have hv := hid (hK (.slice (some ⟨qb, qo, none⟩) j qc) w (PrV.is rfl rfl) (Below.refl _ _))
                go_simp
                refine kq hv.out ?_
                rfl
              · intro ac w hR hd hk K hK
                have e4 : ac.tmps[4]?.getD undef = (.pointer (some ⟨g4, 0, none⟩) : Value) := slot (get_keep (hk 4 (no_dst (by kernel_rfl))) rfl)
                refine yes (want_g rfl rfl ((hd 4 _ 21 rfl rfl rfl).val rfl)) ?_
                have hv := hid (hK (.pointer (some ⟨g4, 0, none⟩)) w (PrV.is rfl rfl) (Below.refl _ _))
                go_simp
                refine kq hv.out ?_
                rfl
              · intro ac w hR hd hk K hK
                have e26 : ac.tmps[26]?.getD undef = (.pointer (some ⟨g4, 0, none⟩) : Value) := slot ((hd 9 _ 26 rfl rfl rfl).val rfl)
                have x0 := stay hR y0
                refine yes (want_g rfl rfl ((hd 4 _ 21 rfl rfl rfl).val rfl)) ?_
                have hv := hid (hK (.string X0) w (PrV.is rfl rfl) (Below.refl _ _))
                go_simp
                refine kq hv.out ?_
                rfl
              · exact fun ac w hR hd hk K hK => yes (want_g rfl rfl ((hd 4 _ 21 rfl rfl rfl).val rfl)) (wp_callv 62 _ _ rfl _ Tryz.func62 rfl rfl _ (args2 ((hd 8 _ 25 rfl rfl rfl).val rfl) ((hd 10 _ 27 rfl rfl rfl).val rfl)) (kQ w hR) (by rintro e w' ⟨rfl, hb⟩; exact ⟨_, rfl, hK _ w' (PrV.is rfl rfl) (by subst hb; exact Below.refl _ _)⟩))
              · intro ac w hR hd hk K hK
                have e28 : ac.tmps[28]?.getD undef = (.int .i64 pl : Value) := slot ((hd 11 _ 28 rfl rfl rfl).val rfl)
                have dd := e1
                refine yes (want_g rfl rfl ((hd 4 _ 21 rfl rfl rfl).val rfl)) ?_
                have hv := hid (hK (.bool false) w (PrV.is rfl rfl) (Below.refl _ _))
                go_simp
                refine kq hv.out ?_
                rfl
              · exact fun ac w hR hd hk K hK => yes (want_n rfl) (wp_pick _ _ _ rfl false _ ((hd 4 _ 21 rfl rfl rfl).val rfl) ((hd 12 _ 29 rfl rfl rfl).val rfl) (hK _ w (PrV.is rfl rfl) (Below.refl _ _)))
              · exact fun ac w hR hd hk K hK => yes (want_n rfl) (wp_mv _ rfl _ ((hd 13 _ 30 rfl rfl rfl).val rfl) (hK _ w (PrV.is rfl rfl) (Below.refl _ _)))
              · intro ac w hR hd hk K hK
                have e4 : ac.tmps[4]?.getD undef = (.pointer (some ⟨g4, 0, none⟩) : Value) := slot (get_keep (hk 4 (no_dst (by kernel_rfl))) rfl)
                refine yes (want_g rfl rfl ((hd 14 _ 31 rfl rfl rfl).val rfl)) ?_
                have hv := hid (hK (.pointer (some ⟨g4, 1, none⟩)) w (PrV.is rfl rfl) (Below.refl _ _))
                go_simp
                refine kq hv.out ?_
                rfl
              · intro ac w hR hd hk K hK
                have e32 : ac.tmps[32]?.getD undef = (.pointer (some ⟨g4, 1, none⟩) : Value) := slot ((hd 15 _ 32 rfl rfl rfl).val rfl)
                have x0 := stay hR y1
                refine yes (want_g rfl rfl ((hd 14 _ 31 rfl rfl rfl).val rfl)) ?_
                have hv := hid (hK (.int .i64 X1) w (PrV.is rfl rfl) (Below.refl _ _))
                go_simp
                refine kq hv.out ?_
                rfl
              · intro ac w hR hd hk K hK
                have e33 : ac.tmps[33]?.getD undef = (.int .i64 X1 : Value) := slot ((hd 16 _ 33 rfl rfl rfl).val rfl)
                have dd := e2
                refine yes (want_g rfl rfl ((hd 14 _ 31 rfl rfl rfl).val rfl)) ?_
                have hv := hid (hK (.bool false) w (PrV.is rfl rfl) (Below.refl _ _))
                go_simp
                refine kq hv.out ?_
                rfl
              · exact fun ac w hR hd hk K hK => yes (want_n rfl) (wp_pick _ _ _ rfl false _ ((hd 14 _ 31 rfl rfl rfl).val rfl) ((hd 17 _ 34 rfl rfl rfl).val rfl) (hK _ w (PrV.is rfl rfl) (Below.refl _ _)))
              · exact fun ac w hR hd hk K hK => yes (want_n rfl) (wp_mv _ rfl _ ((hd 18 _ 35 rfl rfl rfl).val rfl) (hK _ w (PrV.is rfl rfl) (Below.refl _ _)))
              · intro ac w hR hd hk K hK
                have e4 : ac.tmps[4]?.getD undef = (.pointer (some ⟨g4, 0, none⟩) : Value) := slot (get_keep (hk 4 (no_dst (by kernel_rfl))) rfl)
                refine yes (want_g rfl rfl ((hd 19 _ 36 rfl rfl rfl).val rfl)) ?_
                have hv := hid (hK (.pointer (some ⟨g4, 1, none⟩)) w (PrV.is rfl rfl) (Below.refl _ _))
                go_simp
                refine kq hv.out ?_
                rfl
              · intro ac w hR hd hk K hK
                have e37 : ac.tmps[37]?.getD undef = (.pointer (some ⟨g4, 1, none⟩) : Value) := slot ((hd 20 _ 37 rfl rfl rfl).val rfl)
                have x0 := stay hR y1
                refine yes (want_g rfl rfl ((hd 19 _ 36 rfl rfl rfl).val rfl)) ?_
                have hv := hid (hK (.int .i64 X1) w (PrV.is rfl rfl) (Below.refl _ _))
                go_simp
                refine kq hv.out ?_
                rfl
              · intro ac w hR hd hk K hK
                have e38 : ac.tmps[38]?.getD undef = (.int .i64 X1 : Value) := slot ((hd 21 _ 38 rfl rfl rfl).val rfl)
                have dd := e3
                refine yes (want_g rfl rfl ((hd 19 _ 36 rfl rfl rfl).val rfl)) ?_
                have hv := hid (hK (.bool true) w (PrV.is rfl rfl) (Below.refl _ _))
                go_simp
                refine kq hv.out ?_
                rfl
              · exact fun ac w hR hd hk K hK => yes (want_n rfl) (wp_pick _ _ _ rfl false _ ((hd 19 _ 36 rfl rfl rfl).val rfl) ((hd 22 _ 39 rfl rfl rfl).val rfl) (hK _ w (PrV.is rfl rfl) (Below.refl _ _)))
              · exact fun ac w hR hd hk K hK => yes (want_n rfl) (wp_mv _ rfl _ ((hd 23 _ 40 rfl rfl rfl).val rfl) (hK _ w (PrV.is rfl rfl) (Below.refl _ _)))
              · exact fun ac w hR hd hk K hK => nope (want_f rfl rfl ((hd 24 _ 41 rfl rfl rfl).val rfl) (by decide)) (hK _ w (PrV.is rfl rfl) (Below.refl _ _))
              · exact fun ac w hR hd hk K hK => nope (want_f rfl rfl ((hd 24 _ 41 rfl rfl rfl).val rfl) (by decide)) (hK _ w (PrV.is rfl rfl) (Below.refl _ _))
              · exact fun ac w hR hd hk K hK => nope (want_f rfl rfl ((hd 24 _ 41 rfl rfl rfl).val rfl) (by decide)) (hK _ w (PrV.is rfl rfl) (Below.refl _ _))
              · exact fun ac w hR hd hk K hK => yes (want_n rfl) (wp_pick _ _ _ rfl true _ ((hd 24 _ 41 rfl rfl rfl).val rfl) rfl (hK _ w (PrV.is rfl rfl) (Below.refl _ _)))
              · exact fun ac w hR hd hk K hK => yes (want_n rfl) (wp_mv _ rfl _ ((hd 28 _ 45 rfl rfl rfl).val rfl) (hK _ w (PrV.is rfl rfl) (Below.refl _ _)))
              · exact fun ac w hR hd hk K hK => nope (want_f rfl rfl ((hd 29 _ 46 rfl rfl rfl).val rfl) (by decide)) (hK _ w (PrV.is rfl rfl) (Below.refl _ _))
              · exact fun ac w hR hd hk K hK => nope (want_f rfl rfl ((hd 29 _ 46 rfl rfl rfl).val rfl) (by decide)) (hK _ w (PrV.is rfl rfl) (Below.refl _ _))
              · exact fun ac w hR hd hk K hK => nope (want_f rfl rfl ((hd 29 _ 46 rfl rfl rfl).val rfl) (by decide)) (hK _ w (PrV.is rfl rfl) (Below.refl _ _))
              · exact fun ac w hR hd hk K hK => yes (want_n rfl) (wp_pick _ _ _ rfl true _ ((hd 29 _ 46 rfl rfl rfl).val rfl) rfl (hK _ w (PrV.is rfl rfl) (Below.refl _ _)))
              · exact fun ac w hR hd hk K hK => yes (want_n rfl) (wp_mv _ rfl _ ((hd 33 _ 50 rfl rfl rfl).val rfl) (hK _ w (PrV.is rfl rfl) (Below.refl _ _)))
              · exact fun ac w hR hd hk K hK => nope (want_f rfl rfl ((hd 34 _ 51 rfl rfl rfl).val rfl) (by decide)) (hK _ w (PrV.is rfl rfl) (Below.refl _ _))
              · exact fun ac w hR hd hk K hK => nope (want_f rfl rfl ((hd 34 _ 51 rfl rfl rfl).val rfl) (by decide)) (hK _ w (PrV.is rfl rfl) (Below.refl _ _))
              · exact fun ac w hR hd hk K hK => nope (want_f rfl rfl ((hd 34 _ 51 rfl rfl rfl).val rfl) (by decide)) (hK _ w (PrV.is rfl rfl) (Below.refl _ _))
              · exact fun ac w hR hd hk K hK => yes (want_n rfl) (wp_pick _ _ _ rfl true _ ((hd 34 _ 51 rfl rfl rfl).val rfl) rfl (hK _ w (PrV.is rfl rfl) (Below.refl _ _)))
              · exact fun ac w hR hd hk K hK => yes (want_n rfl) (wp_mv _ rfl _ ((hd 38 _ 55 rfl rfl rfl).val rfl) (hK _ w (PrV.is rfl rfl) (Below.refl _ _)))
              · exact fun ac w hR hd hk K hK => nope (want_f rfl rfl ((hd 39 _ 56 rfl rfl rfl).val rfl) (by decide)) (hK _ w (PrV.is rfl rfl) (Below.refl _ _))
              · exact fun ac w hR hd hk K hK => nope (want_f rfl rfl ((hd 39 _ 56 rfl rfl rfl).val rfl) (by decide)) (hK _ w (PrV.is rfl rfl) (Below.refl _ _))
              · exact fun ac w hR hd hk K hK => nope (want_f rfl rfl ((hd 39 _ 56 rfl rfl rfl).val rfl) (by decide)) (hK _ w (PrV.is rfl rfl) (Below.refl _ _))
              · exact fun ac w hR hd hk K hK => yes (want_n rfl) (wp_pick _ _ _ rfl true _ ((hd 39 _ 56 rfl rfl rfl).val rfl) rfl (hK _ w (PrV.is rfl rfl) (Below.refl _ _)))
            · intro a w5 hdf hsz hkp hval hRw
              obtain ⟨f, hf⟩ : ∃ f, f = fun d => a.tmps.getD d undef := ⟨_, rfl⟩
              have h60 : f 60 = .bool true := by rw [hf]; exact (hval 43 _ 60 rfl rfl).val rfl
              have hfa := act_filled hdf hsz hkp
              rw [← hf] at hfa
              rw [hfa]
              clear hdf hsz hkp hval hfa hf
              clear a
              simp only [fillAll, List.set_cons_zero, List.set_cons_succ, h60]
              clear h60
              have B5 := bnext B2 hRw
              have hf := hid (hbad.out fun h => by have hh := hqi.out.1 h.2; omega)
              subst hg1
              go_wp2
              go_ret
              rw [hf.out]; exact ⟨rfl, B5⟩
          have e3 : decide (1000 < X1) = false := by simpa using q3
          by_cases q4 : X2 < -1
          · have e4 : decide (X2 < -1) = true := by simpa using q4
            refine wp_region_drawn (Rel := fun w w' => Below w.heap.size w w') (Pr := PrV (pv16w4 g1 g4 qb qo qk qc j X0 X1 X2 X3 pl) [] (fun _ _ _ => True)) (by kernel_rfl) (by kernel_rfl) (drew_below _) bel_tr (PrV.mono (fun _ _ _ _ _ _ => trivial)) ?_ ?_
            · refine ⟨?_, ?_, ?_, ?_, ?_, ?_, ?_, ?_, ?_, ?_, ?_, ?_, ?_, ?_, ?_, ?_, ?_, ?_, ?_, ?_, ?_, ?_, ?_, ?_, ?_, ?_, ?_, ?_, ?_, ?_, ?_, ?_, ?_, ?_, ?_, ?_, ?_, ?_, ?_, ?_, ?_, ?_, ?_, ?_, trivial⟩
              · intro ac w hR hd hk K hK
                have e4 : ac.tmps[4]?.getD undef = (.pointer (some ⟨g4, 0, none⟩) : Value) := slot (get_keep (hk 4 (no_dst (by kernel_rfl))) rfl)
                refine yes (want_n rfl) ?_
                have hv := hid (hK (.pointer (some ⟨g4, 0, none⟩)) w (PrV.is rfl rfl) (Below.refl _ _))
                go_simp
                refine kq hv.out ?_
                rfl
              · intro ac w hR hd hk K hK
                have e17 : ac.tmps[17]?.getD undef = (.pointer (some ⟨g4, 0, none⟩) : Value) := slot ((hd 0 _ 17 rfl rfl rfl).val rfl)
                have x0 := stay hR y0
                refine yes (want_n rfl) ?_
                have hv := hid (hK (.string X0) w (PrV.is rfl rfl) (Below.refl _ _))
                go_simp
                refine kq hv.out ?_
                rfl
              · exact fun ac w hR hd hk K hK => yes (want_n rfl) (wp_callv 44 _ _ rfl _ Tryz.func44 rfl rfl _ (args1 ((hd 1 _ 18 rfl rfl rfl).val rfl)) (kN w) (by rintro e w' ⟨rfl, hb⟩; exact ⟨_, rfl, hK _ w' (PrV.is rfl rfl) (by subst hb; exact Below.refl _ _)⟩))
              · intro ac w hR hd hk K hK
                have e19 : ac.tmps[19]?.getD undef = (.bool true : Value) := slot ((hd 2 _ 19 rfl rfl rfl).val rfl)
                refine yes (want_n rfl) ?_
                have hv := hid (hK (.bool false) w (PrV.is rfl rfl) (Below.refl _ _))
                go_simp
                refine kq hv.out ?_
                rfl
              · exact fun ac w hR hd hk K hK => yes (want_n rfl) (wp_mv _ rfl _ ((hd 3 _ 20 rfl rfl rfl).val rfl) (hK _ w (PrV.is rfl rfl) (Below.refl _ _)))
              · intro ac w hR hd hk K hK
                have e1 : ac.tmps[1]?.getD undef = (.pointer (some ⟨g1, 0, none⟩) : Value) := slot (get_keep (hk 1 (no_dst (by kernel_rfl))) rfl)
                refine yes (want_g rfl rfl ((hd 4 _ 21 rfl rfl rfl).val rfl)) ?_
                have hv := hid (hK (.pointer (some ⟨g1, 3, none⟩)) w (PrV.is rfl rfl) (Below.refl _ _))
                go_simp
                refine kq hv.out ?_
                rfl
              · intro ac w hR hd hk K hK
                have e22 : ac.tmps[22]?.getD undef = (.pointer (some ⟨g1, 3, none⟩) : Value) := slot ((hd 5 _ 22 rfl rfl rfl).val rfl)
                have x0 := stay hR z3
                refine yes (want_g rfl rfl ((hd 4 _ 21 rfl rfl rfl).val rfl)) ?_
                have hv := hid (hK (.slice (some ⟨qb, qo, none⟩) qk qc) w (PrV.is rfl rfl) (Below.refl _ _))
                go_simp
                refine kq hv.out ?_
                rfl
              · exact fun ac w hR hd hk K hK => yes (want_g rfl rfl ((hd 4 _ 21 rfl rfl rfl).val rfl)) (wp_mv _ rfl _ (get_keep (hk 3 (no_dst (by kernel_rfl))) rfl) (hK _ w (PrV.is rfl rfl) (Below.refl _ _)))
              · intro ac w hR hd hk K hK
                have e23 : ac.tmps[23]?.getD undef = (.slice (some ⟨qb, qo, none⟩) qk qc : Value) := slot ((hd 6 _ 23 rfl rfl rfl).val rfl)
                have e24 : ac.tmps[24]?.getD undef = (.int .i64 (j : Int) : Value) := slot ((hd 7 _ 24 rfl rfl rfl).val rfl)
                have f1 := hjc
                have f2 := hjk
                have f3 := hc0
                have f4 := hj0
                refine yes (want_g rfl rfl ((hd 4 _ 21 rfl rfl rfl).val rfl)) ?_
                have hv := hid (hK (.slice (some ⟨qb, qo, none⟩) j qc) w (PrV.is rfl rfl) (Below.refl _ _))
                go_simp
                refine kq hv.out ?_
                rfl
              · intro ac w hR hd hk K hK
                have e4 : ac.tmps[4]?.getD undef = (.pointer (some ⟨g4, 0, none⟩) : Value) := slot (get_keep (hk 4 (no_dst (by kernel_rfl))) rfl)
                refine yes (want_g rfl rfl ((hd 4 _ 21 rfl rfl rfl).val rfl)) ?_
                have hv := hid (hK (.pointer (some ⟨g4, 0, none⟩)) w (PrV.is rfl rfl) (Below.refl _ _))
                go_simp
                refine kq hv.out ?_
                rfl
              · intro ac w hR hd hk K hK
                have e26 : ac.tmps[26]?.getD undef = (.pointer (some ⟨g4, 0, none⟩) : Value) := slot ((hd 9 _ 26 rfl rfl rfl).val rfl)
                have x0 := stay hR y0
                refine yes (want_g rfl rfl ((hd 4 _ 21 rfl rfl rfl).val rfl)) ?_
                have hv := hid (hK (.string X0) w (PrV.is rfl rfl) (Below.refl _ _))
                go_simp
                refine kq hv.out ?_
                rfl
              · exact fun ac w hR hd hk K hK => yes (want_g rfl rfl ((hd 4 _ 21 rfl rfl rfl).val rfl)) (wp_callv 62 _ _ rfl _ Tryz.func62 rfl rfl _ (args2 ((hd 8 _ 25 rfl rfl rfl).val rfl) ((hd 10 _ 27 rfl rfl rfl).val rfl)) (kQ w hR) (by rintro e w' ⟨rfl, hb⟩; exact ⟨_, rfl, hK _ w' (PrV.is rfl rfl) (by subst hb; exact Below.refl _ _)⟩))
              · intro ac w hR hd hk K hK
                have e28 : ac.tmps[28]?.getD undef = (.int .i64 pl : Value) := slot ((hd 11 _ 28 rfl rfl rfl).val rfl)
                have dd := e1
                refine yes (want_g rfl rfl ((hd 4 _ 21 rfl rfl rfl).val rfl)) ?_
                have hv := hid (hK (.bool false) w (PrV.is rfl rfl) (Below.refl _ _))
                go_simp
                refine kq hv.out ?_
                rfl
              · exact fun ac w hR hd hk K hK => yes (want_n rfl) (wp_pick _ _ _ rfl false _ ((hd 4 _ 21 rfl rfl rfl).val rfl) ((hd 12 _ 29 rfl rfl rfl).val rfl) (hK _ w (PrV.is rfl rfl) (Below.refl _ _)))
              · exact fun ac w hR hd hk K hK => yes (want_n rfl) (wp_mv _ rfl _ ((hd 13 _ 30 rfl rfl rfl).val rfl) (hK _ w (PrV.is rfl rfl) (Below.refl _ _)))
              · intro ac w hR hd hk K hK
                have e4 : ac.tmps[4]?.getD undef = (.pointer (some ⟨g4, 0, none⟩) : Value) := slot (get_keep (hk 4 (no_dst (by kernel_rfl))) rfl)
                refine yes (want_g rfl rfl ((hd 14 _ 31 rfl rfl rfl).val rfl)) ?_
                have hv := hid (hK (.pointer (some ⟨g4, 1, none⟩)) w (PrV.is rfl rfl) (Below.refl _ _))
                go_simp
                refine kq hv.out ?_
                rfl
              · intro ac w hR hd hk K hK
                have e32 : ac.tmps[32]?.getD undef = (.pointer (some ⟨g4, 1, none⟩) : Value) := slot ((hd 15 _ 32 rfl rfl rfl).val rfl)
                have x0 := stay hR y1
                refine yes (want_g rfl rfl ((hd 14 _ 31 rfl rfl rfl).val rfl)) ?_
                have hv := hid (hK (.int .i64 X1) w (PrV.is rfl rfl) (Below.refl _ _))
                go_simp
                refine kq hv.out ?_
                rfl
              · intro ac w hR hd hk K hK
                have e33 : ac.tmps[33]?.getD undef = (.int .i64 X1 : Value) := slot ((hd 16 _ 33 rfl rfl rfl).val rfl)
                have dd := e2
                refine yes (want_g rfl rfl ((hd 14 _ 31 rfl rfl rfl).val rfl)) ?_
                have hv := hid (hK (.bool false) w (PrV.is rfl rfl) (Below.refl _ _))
                go_simp
                refine kq hv.out ?_
                rfl
              · exact fun ac w hR hd hk K hK => yes (want_n rfl) (wp_pick _ _ _ rfl false _ ((hd 14 _ 31 rfl rfl rfl).val rfl) ((hd 17 _ 34 rfl rfl rfl).val rfl) (hK _ w (PrV.is rfl rfl) (Below.refl _ _)))
              · exact fun ac w hR hd hk K hK => yes (want_n rfl) (wp_mv _ rfl _ ((hd 18 _ 35 rfl rfl rfl).val rfl) (hK _ w (PrV.is rfl rfl) (Below.refl _ _)))
              · intro ac w hR hd hk K hK
                have e4 : ac.tmps[4]?.getD undef = (.pointer (some ⟨g4, 0, none⟩) : Value) := slot (get_keep (hk 4 (no_dst (by kernel_rfl))) rfl)
                refine yes (want_g rfl rfl ((hd 19 _ 36 rfl rfl rfl).val rfl)) ?_
                have hv := hid (hK (.pointer (some ⟨g4, 1, none⟩)) w (PrV.is rfl rfl) (Below.refl _ _))
                go_simp
                refine kq hv.out ?_
                rfl
              · intro ac w hR hd hk K hK
                have e37 : ac.tmps[37]?.getD undef = (.pointer (some ⟨g4, 1, none⟩) : Value) := slot ((hd 20 _ 37 rfl rfl rfl).val rfl)
                have x0 := stay hR y1
                refine yes (want_g rfl rfl ((hd 19 _ 36 rfl rfl rfl).val rfl)) ?_
                have hv := hid (hK (.int .i64 X1) w (PrV.is rfl rfl) (Below.refl _ _))
                go_simp
                refine kq hv.out ?_
                rfl
              · intro ac w hR hd hk K hK
                have e38 : ac.tmps[38]?.getD undef = (.int .i64 X1 : Value) := slot ((hd 21 _ 38 rfl rfl rfl).val rfl)
                have dd := e3
                refine yes (want_g rfl rfl ((hd 19 _ 36 rfl rfl rfl).val rfl)) ?_
                have hv := hid (hK (.bool false) w (PrV.is rfl rfl) (Below.refl _ _))
                go_simp
                refine kq hv.out ?_
                rfl
              · exact fun ac w hR hd hk K hK => yes (want_n rfl) (wp_pick _ _ _ rfl false _ ((hd 19 _ 36 rfl rfl rfl).val rfl) ((hd 22 _ 39 rfl rfl rfl).val rfl) (hK _ w (PrV.is rfl rfl) (Below.refl _ _)))
              · exact fun ac w hR hd hk K hK => yes (want_n rfl) (wp_mv _ rfl _ ((hd 23 _ 40 rfl rfl rfl).val rfl) (hK _ w (PrV.is rfl rfl) (Below.refl _ _)))
              · intro ac w hR hd hk K hK
                have e4 : ac.tmps[4]?.getD undef = (.pointer (some ⟨g4, 0, none⟩) : Value) := slot (get_keep (hk 4 (no_dst (by kernel_rfl))) rfl)
                refine yes (want_g rfl rfl ((hd 24 _ 41 rfl rfl rfl).val rfl)) ?_
                have hv := hid (hK (.pointer (some ⟨g4, 2, none⟩)) w (PrV.is rfl rfl) (Below.refl _ _))
                go_simp
                refine kq hv.out ?_
                rfl
              · intro ac w hR hd hk K hK
                have e42 : ac.tmps[42]?.getD undef = (.pointer (some ⟨g4, 2, none⟩) : Value) := slot ((hd 25 _ 42 rfl rfl rfl).val rfl)
                have x0 := stay hR y2
                refine yes (want_g rfl rfl ((hd 24 _ 41 rfl rfl rfl).val rfl)) ?_
                have hv := hid (hK (.int .i64 X2) w (PrV.is rfl rfl) (Below.refl _ _))
                go_simp
                refine kq hv.out ?_
                rfl
              · intro ac w hR hd hk K hK
                have e43 : ac.tmps[43]?.getD undef = (.int .i64 X2 : Value) := slot ((hd 26 _ 43 rfl rfl rfl).val rfl)
                have dd := e4
                refine yes (want_g rfl rfl ((hd 24 _ 41 rfl rfl rfl).val rfl)) ?_
                have hv := hid (hK (.bool true) w (PrV.is rfl rfl) (Below.refl _ _))
                go_simp
                refine kq hv.out ?_
                rfl
              · exact fun ac w hR hd hk K hK => yes (want_n rfl) (wp_pick _ _ _ rfl false _ ((hd 24 _ 41 rfl rfl rfl).val rfl) ((hd 27 _ 44 rfl rfl rfl).val rfl) (hK _ w (PrV.is rfl rfl) (Below.refl _ _)))
              · exact fun ac w hR hd hk K hK => yes (want_n rfl) (wp_mv _ rfl _ ((hd 28 _ 45 rfl rfl rfl).val rfl) (hK _ w (PrV.is rfl rfl) (Below.refl _ _)))
              · exact fun ac w hR hd hk K hK => nope (want_f rfl rfl ((hd 29 _ 46 rfl rfl rfl).val rfl) (by decide)) (hK _ w (PrV.is rfl rfl) (Below.refl _ _))
              · exact fun ac w hR hd hk K hK => nope (want_f rfl rfl ((hd 29 _ 46 rfl rfl rfl).val rfl) (by decide)) (hK _ w (PrV.is rfl rfl) (Below.refl _ _))
              · exact fun ac w hR hd hk K hK => nope (want_f rfl rfl ((hd 29 _ 46 rfl rfl rfl).val rfl) (by decide)) (hK _ w (PrV.is rfl rfl) (Below.refl _ _))
              · exact fun ac w hR hd hk K hK => yes (want_n rfl) (wp_pick _ _ _ rfl true _ ((hd 29 _ 46 rfl rfl rfl).val rfl) rfl (hK _ w (PrV.is rfl rfl) (Below.refl _ _)))
              · exact fun ac w hR hd hk K hK => yes (want_n rfl) (wp_mv _ rfl _ ((hd 33 _ 50 rfl rfl rfl).val rfl) (hK _ w (PrV.is rfl rfl) (Below.refl _ _)))
              · exact fun ac w hR hd hk K hK => nope (want_f rfl rfl ((hd 34 _ 51 rfl rfl rfl).val rfl) (by decide)) (hK _ w (PrV.is rfl rfl) (Below.refl _ _))
              · exact fun ac w hR hd hk K hK => nope (want_f rfl rfl ((hd 34 _ 51 rfl rfl rfl).val rfl) (by decide)) (hK _ w (PrV.is rfl rfl) (Below.refl _ _))
              · exact fun ac w hR hd hk K hK => nope (want_f rfl rfl ((hd 34 _ 51 rfl rfl rfl).val rfl) (by decide)) (hK _ w (PrV.is rfl rfl) (Below.refl _ _))
              · exact fun ac w hR hd hk K hK => yes (want_n rfl) (wp_pick _ _ _ rfl true _ ((hd 34 _ 51 rfl rfl rfl).val rfl) rfl (hK _ w (PrV.is rfl rfl) (Below.refl _ _)))
              · exact fun ac w hR hd hk K hK => yes (want_n rfl) (wp_mv _ rfl _ ((hd 38 _ 55 rfl rfl rfl).val rfl) (hK _ w (PrV.is rfl rfl) (Below.refl _ _)))
              · exact fun ac w hR hd hk K hK => nope (want_f rfl rfl ((hd 39 _ 56 rfl rfl rfl).val rfl) (by decide)) (hK _ w (PrV.is rfl rfl) (Below.refl _ _))
              · exact fun ac w hR hd hk K hK => nope (want_f rfl rfl ((hd 39 _ 56 rfl rfl rfl).val rfl) (by decide)) (hK _ w (PrV.is rfl rfl) (Below.refl _ _))
              · exact fun ac w hR hd hk K hK => nope (want_f rfl rfl ((hd 39 _ 56 rfl rfl rfl).val rfl) (by decide)) (hK _ w (PrV.is rfl rfl) (Below.refl _ _))
              · exact fun ac w hR hd hk K hK => yes (want_n rfl) (wp_pick _ _ _ rfl true _ ((hd 39 _ 56 rfl rfl rfl).val rfl) rfl (hK _ w (PrV.is rfl rfl) (Below.refl _ _)))
            · intro a w5 hdf hsz hkp hval hRw
              obtain ⟨f, hf⟩ : ∃ f, f = fun d => a.tmps.getD d undef := ⟨_, rfl⟩
              have h60 : f 60 = .bool true := by rw [hf]; exact (hval 43 _ 60 rfl rfl).val rfl
              have hfa := act_filled hdf hsz hkp
              rw [← hf] at hfa
              rw [hfa]
              clear hdf hsz hkp hval hfa hf
              clear a
              simp only [fillAll, List.set_cons_zero, List.set_cons_succ, h60]
              clear h60
              have B5 := bnext B2 hRw
              have hf := hid (hbad.out fun h => by have hh := hqi.out.1 h.2; omega)
              subst hg1
              go_wp2
              go_ret
              rw [hf.out]; exact ⟨rfl, B5⟩
          have e4 : decide (X2 < -1) = false := by simpa using q4
          by_cases q5 : 1073741824 < X2
          · have e5 : decide (1073741824 < X2) = true := by simpa using q5
            refine wp_region_drawn (Rel := fun w w' => Below w.heap.size w w') (Pr := PrV (pv16w5 g1 g4 qb qo qk qc j X0 X1 X2 X3 pl) [] (fun _ _ _ => True)) (by kernel_rfl) (by kernel_rfl) (drew_below _) bel_tr (PrV.mono (fun _ _ _ _ _ _ => trivial)) ?_ ?_
            · refine ⟨?_, ?_, ?_, ?_, ?_, ?_, ?_, ?_, ?_, ?_, ?_, ?_, ?_, ?_, ?_, ?_, ?_, ?_, ?_, ?_, ?_, ?_, ?_, ?_, ?_, ?_, ?_, ?_, ?_, ?_, ?_, ?_, ?_, ?_, ?_, ?_, ?_, ?_, ?_, ?_, ?_, ?_, ?_, ?_, trivial⟩
              · intro ac w hR hd hk K hK
                have e4 : ac.tmps[4]?.getD undef = (.pointer (some ⟨g4, 0, none⟩) : Value) := slot (get_keep (hk 4 (no_dst (by kernel_rfl))) rfl)
                refine yes (want_n rfl) ?_
                have hv := hid (hK (.pointer (some ⟨g4, 0, none⟩)) w (PrV.is rfl rfl) (Below.refl _ _))
                go_simp
                refine kq hv.out ?_
                rfl
              · intro ac w hR hd hk K hK
                have e17 : ac.tmps[17]?.getD undef = (.pointer (some ⟨g4, 0, none⟩) : Value) := slot ((hd 0 _ 17 rfl rfl rfl).val rfl)
                have x0 := stay hR y0
                refine yes (want_n rfl) ?_
                have hv := hid (hK (.string X0) w (PrV.is rfl rfl) (Below.refl _ _))
                go_simp
                refine kq hv.out ?_
                rfl
              · exact fun ac w hR hd hk K hK => yes (want_n rfl) (wp_callv 44 _ _ rfl _ Tryz.func44 rfl rfl _ (args1 ((hd 1 _ 18 rfl rfl rfl).val rfl)) (kN w) (by rintro e w' ⟨rfl, hb⟩; exact ⟨_, rfl, hK _ w' (PrV.is rfl rfl) (by subst hb; exact Below.refl _ _)⟩))
              · intro ac w hR hd hk K hK
                have e19 : ac.tmps[19]?.getD undef = (.bool true : Value) := slot ((hd 2 _ 19 rfl rfl rfl).val rfl)
                refine yes (want_n rfl) ?_
                have hv := hid (hK (.bool false) w (PrV.is rfl rfl) (Below.refl _ _))
                go_simp
                refine kq hv.out ?_
                rfl
              · exact fun ac w hR hd hk K hK => yes (want_n rfl) (wp_mv _ rfl _ ((hd 3 _ 20 rfl rfl rfl).val rfl) (hK _ w (PrV.is rfl rfl) (Below.refl _ _)))
              · intro ac w hR hd hk K hK
                have e1 : ac.tmps[1]?.getD undef = (.pointer (some ⟨g1, 0, none⟩) : Value) := slot (get_keep (hk 1 (no_dst (by kernel_rfl))) rfl)
                refine yes (want_g rfl rfl ((hd 4 _ 21 rfl rfl rfl).val rfl)) ?_
                have hv := hid (hK (.pointer (some ⟨g1, 3, none⟩)) w (PrV.is rfl rfl) (Below.refl _ _))
                go_simp
                refine kq hv.out ?_
                rfl
              · intro ac w hR hd hk K hK
                have e22 : ac.tmps[22]?.getD undef = (.pointer (some ⟨g1, 3, none⟩) : Value) := slot ((hd 5 _ 22 rfl rfl rfl).val rfl)
                have x0 := stay hR z3
                refine yes (want_g rfl rfl ((hd 4 _ 21 rfl rfl rfl).val rfl)) ?_
                have hv := hid (hK (.slice (some ⟨qb, qo, none⟩) qk qc) w (PrV.is rfl rfl) (Below.refl _ _))
                go_simp
                refine kq hv.out ?_
                rfl
              · exact fun ac w hR hd hk K hK => yes (want_g rfl rfl ((hd 4 _ 21 rfl rfl rfl).val rfl)) (wp_mv _ rfl _ (get_keep (hk 3 (no_dst (by kernel_rfl))) rfl) (hK _ w (PrV.is rfl rfl) (Below.refl _ _)))
              · intro ac w hR hd hk K hK
                have e23 : ac.tmps[23]?.getD undef = (.slice (some ⟨qb, qo, none⟩) qk qc : Value) := slot ((hd 6 _ 23 rfl rfl rfl).val rfl)
                have e24 : ac.tmps[24]?.getD undef = (.int .i64 (j : Int) : Value) := slot ((hd 7 _ 24 rfl rfl rfl).val rfl)
                have f1 := hjc
                have f2 := hjk
                have f3 := hc0
                have f4 := hj0
                refine yes (want_g rfl rfl ((hd 4 _ 21 rfl rfl rfl).val rfl)) ?_
                have hv := hid (hK (.slice (some ⟨qb, qo, none⟩) j qc) w (PrV.is rfl rfl) (Below.refl _ _))
                go_simp
                refine kq hv.out ?_
                rfl
              · intro ac w hR hd hk K hK
                have e4 : ac.tmps[4]?.getD undef = (.pointer (some ⟨g4, 0, none⟩) : Value) := slot (get_keep (hk 4 (no_dst (by kernel_rfl))) rfl)
                refine yes (want_g rfl rfl ((hd 4 _ 21 rfl rfl rfl).val rfl)) ?_
                have hv := hid (hK (.pointer (some ⟨g4, 0, none⟩)) w (PrV.is rfl rfl) (Below.refl _ _))
                go_simp
                refine kq hv.out ?_
                rfl
              · intro ac w hR hd hk K hK
                have e26 : ac.tmps[26]?.getD undef = (.pointer (some ⟨g4, 0, none⟩) : Value) := slot ((hd 9 _ 26 rfl rfl rfl).val rfl)
                have x0 := stay hR y0
                refine yes (want_g rfl rfl ((hd 4 _ 21 rfl rfl rfl).val rfl)) ?_
                have hv := hid (hK (.string X0) w (PrV.is rfl rfl) (Below.refl _ _))
                go_simp
                refine kq hv.out ?_
                rfl
              · exact fun ac w hR hd hk K hK => yes (want_g rfl rfl ((hd 4 _ 21 rfl rfl rfl).val rfl)) (wp_callv 62 _ _ rfl _ Tryz.func62 rfl rfl _ (args2 ((hd 8 _ 25 rfl rfl rfl).val rfl) ((hd 10 _ 27 rfl rfl rfl).val rfl)) (kQ w hR) (by rintro e w' ⟨rfl, hb⟩; exact ⟨_, rfl, hK _ w' (PrV.is rfl rfl) (by subst hb; exact Below.refl _ _)⟩))
              · intro ac w hR hd hk K hK
                have e28 : ac.tmps[28]?.getD undef = (.int .i64 pl : Value) := slot ((hd 11 _ 28 rfl rfl rfl).val rfl)
                have dd := e1
                refine yes (want_g rfl rfl ((hd 4 _ 21 rfl rfl rfl).val rfl)) ?_
                have hv := hid (hK (.bool false) w (PrV.is rfl rfl) (Below.refl _ _))
                go_simp
                refine kq hv.out ?_
                rfl
              · exact fun ac w hR hd hk K hK => yes (want_n rfl) (wp_pick _ _ _ rfl false _ ((hd 4 _ 21 rfl rfl rfl).val rfl) ((hd 12 _ 29 rfl rfl rfl).val rfl) (hK _ w (PrV.is rfl rfl) (Below.refl _ _)))
              · exact fun ac w hR hd hk K hK => yes (want_n rfl) (wp_mv _ rfl _ ((hd 13 _ 30 rfl rfl rfl).val rfl) (hK _ w (PrV.is rfl rfl) (Below.refl _ _)))
              · intro ac w hR hd hk K hK
                have e4 : ac.tmps[4]?.getD undef = (.pointer (some ⟨g4, 0, none⟩) : Value) := slot (get_keep (hk 4 (no_dst (by kernel_rfl))) rfl)
                refine yes (want_g rfl rfl ((hd 14 _ 31 rfl rfl rfl).val rfl)) ?_
                have hv := hid (hK (.pointer (some ⟨g4, 1, none⟩)) w (PrV.is rfl rfl) (Below.refl _ _))
                go_simp
                refine kq hv.out ?_
                rfl
              · intro ac w hR hd hk K hK
                have e32 : ac.tmps[32]?.getD undef = (.pointer (some ⟨g4, 1, none⟩) : Value) := slot ((hd 15 _ 32 rfl rfl rfl).val rfl)
                have x0 := stay hR y1
                refine yes (want_g rfl rfl ((hd 14 _ 31 rfl rfl rfl).val rfl)) ?_
                have hv := hid (hK (.int .i64 X1) w (PrV.is rfl rfl) (Below.refl _ _))
                go_simp
                refine kq hv.out ?_
                rfl
              · intro ac w hR hd hk K hK
                have e33 : ac.tmps[33]?.getD undef = (.int .i64 X1 : Value) := slot ((hd 16 _ 33 rfl rfl rfl).val rfl)
                have dd := e2
                refine yes (want_g rfl rfl ((hd 14 _ 31 rfl rfl rfl).val rfl)) ?_
                have hv := hid (hK (.bool false) w (PrV.is rfl rfl) (Below.refl _ _))
                go_simp
                refine kq hv.out ?_
                rfl
              · exact fun ac w hR hd hk K hK => yes (want_n rfl) (wp_pick _ _ _ rfl false _ ((hd 14 _ 31 rfl rfl rfl).val rfl) ((hd 17 _ 34 rfl rfl rfl).val rfl) (hK _ w (PrV.is rfl rfl) (Below.refl _ _)))
              · exact fun ac w hR hd hk K hK => yes (want_n rfl) (wp_mv _ rfl _ ((hd 18 _ 35 rfl rfl rfl).val rfl) (hK _ w (PrV.is rfl rfl) (Below.refl _ _)))
              · intro ac w hR hd hk K hK
                have e4 : ac.tmps[4]?.getD undef = (.pointer (some ⟨g4, 0, none⟩) : Value) := slot (get_keep (hk 4 (no_dst (by kernel_rfl))) rfl)
                refine yes (want_g rfl rfl ((hd 19 _ 36 rfl rfl rfl).val rfl)) ?_
                have hv := hid (hK (.pointer (some ⟨g4, 1, none⟩)) w (PrV.is rfl rfl) (Below.refl _ _))
                go_simp
                refine kq hv.out ?_
                rfl
              · intro ac w hR hd hk K hK
                have e37 : ac.tmps[37]?.getD undef = (.pointer (some ⟨g4, 1, none⟩) : Value) := slot ((hd 20 _ 37 rfl rfl rfl).val rfl)
                have x0 := stay hR y1
                refine yes (want_g rfl rfl ((hd 19 _ 36 rfl rfl rfl).val rfl)) ?_
                have hv := hid (hK (.int .i64 X1) w (PrV.is rfl rfl) (Below.refl _ _))
                go_simp
                refine kq hv.out ?_
                rfl
              · intro ac w hR hd hk K hK
                have e38 : ac.tmps[38]?.getD undef = (.int .i64 X1 : Value) := slot ((hd 21 _ 38 rfl rfl rfl).val rfl)
                have dd := e3
                refine yes (want_g rfl rfl ((hd 19 _ 36 rfl rfl rfl).val rfl)) ?_
                have hv := hid (hK (.bool false) w (PrV.is rfl rfl) (Below.refl _ _))
                go_simp
                refine kq hv.out ?_
                rfl
              · exact fun ac w hR hd hk K hK => yes (want_n rfl) (wp_pick _ _ _ rfl false _ ((hd 19 _ 36 rfl rfl rfl).val rfl) ((hd 22 _ 39 rfl rfl rfl).val rfl) (hK _ w (PrV.is rfl rfl) (Below.refl _ _)))
              · exact fun ac w hR hd hk K hK => yes (want_n rfl) (wp_mv _ rfl _ ((hd 23 _ 40 rfl rfl rfl).val rfl) (hK _ w (PrV.is rfl rfl) (Below.refl _ _)))
              · intro ac w hR hd hk K hK
                have e4 : ac.tmps[4]?.getD undef = (.pointer (some ⟨g4, 0, none⟩) : Value) := slot (get_keep (hk 4 (no_dst (by kernel_rfl))) rfl)
                refine yes (want_g rfl rfl ((hd 24 _ 41 rfl rfl rfl).val rfl)) ?_
                have hv := hid (hK (.pointer (some ⟨g4, 2, none⟩)) w (PrV.is rfl rfl) (Below.refl _ _))
                go_simp
                refine kq hv.out ?_
                rfl
              · intro ac w hR hd hk K hK
                have e42 : ac.tmps[42]?.getD undef = (.pointer (some ⟨g4, 2, none⟩) : Value) := slot ((hd 25 _ 42 rfl rfl rfl).val rfl)
                have x0 := stay hR y2
                refine yes (want_g rfl rfl ((hd 24 _ 41 rfl rfl rfl).val rfl)) ?_
                have hv := hid (hK (.int .i64 X2) w (PrV.is rfl rfl) (Below.refl _ _))
                go_simp
                refine kq hv.out ?_
                rfl
              · intro ac w hR hd hk K hK
                have e43 : ac.tmps[43]?.getD undef = (.int .i64 X2 : Value) := slot ((hd 26 _ 43 rfl rfl rfl).val rfl)
                have dd := e4
                refine yes (want_g rfl rfl ((hd 24 _ 41 rfl rfl rfl).val rfl)) ?_
                have hv := hid (hK (.bool false) w (PrV.is rfl rfl) (Below.refl _ _))
                go_simp
                refine kq hv.out ?_
                rfl
              · exact fun ac w hR hd hk K hK => yes (want_n rfl) (wp_pick _ _ _ rfl false _ ((hd 24 _ 41 rfl rfl rfl).val rfl) ((hd 27 _ 44 rfl rfl rfl).val rfl) (hK _ w (PrV.is rfl rfl) (Below.refl _ _)))
              · exact fun ac w hR hd hk K hK => yes (want_n rfl) (wp_mv _ rfl _ ((hd 28 _ 45 rfl rfl rfl).val rfl) (hK _ w (PrV.is rfl rfl) (Below.refl _ _)))
              · intro ac w hR hd hk K hK
                have e4 : ac.tmps[4]?.getD undef = (.pointer (some ⟨g4, 0, none⟩) : Value) := slot (get_keep (hk 4 (no_dst (by kernel_rfl))) rfl)
                refine yes (want_g rfl rfl ((hd 29 _ 46 rfl rfl rfl).val rfl)) ?_
                have hv := hid (hK (.pointer (some ⟨g4, 2, none⟩)) w (PrV.is rfl rfl) (Below.refl _ _))
                go_simp
                refine kq hv.out ?_
                rfl
              · intro ac w hR hd hk K hK
                have e47 : ac.tmps[47]?.getD undef = (.pointer (some ⟨g4, 2, none⟩) : Value) := slot ((hd 30 _ 47 rfl rfl rfl).val rfl)
                have x0 := stay hR y2
                refine yes (want_g rfl rfl ((hd 29 _ 46 rfl rfl rfl).val rfl)) ?_
                have hv := hid (hK (.int .i64 X2) w (PrV.is rfl rfl) (Below.refl _ _))
                go_simp
                refine kq hv.out ?_
                rfl
              · intro ac w hR hd hk K hK
                have e48 : ac.tmps[48]?.getD undef = (.int .i64 X2 : Value) := slot ((hd 31 _ 48 rfl rfl rfl).val rfl)
                have dd := e5
                refine yes (want_g rfl rfl ((hd 29 _ 46 rfl rfl rfl).val rfl)) ?_
                have hv := hid (hK (.bool true) w (PrV.is rfl rfl) (Below.refl _ _))
                go_simp
                refine kq hv.out ?_
                rfl
              · exact fun ac w hR hd hk K hK => yes (want_n rfl) (wp_pick _ _ _ rfl false _ ((hd 29 _ 46 rfl rfl rfl).val rfl) ((hd 32 _ 49 rfl rfl rfl).val rfl) (hK _ w (PrV.is rfl rfl) (Below.refl _ _)))
              · exact fun ac w hR hd hk K hK => yes (want_n rfl) (wp_mv _ rfl _ ((hd 33 _ 50 rfl rfl rfl).val rfl) (hK _ w (PrV.is rfl rfl) (Below.refl _ _)))
              · exact fun ac w hR hd hk K hK => nope (want_f rfl rfl ((hd 34 _ 51 rfl rfl rfl).val rfl) (by decide)) (hK _ w (PrV.is rfl rfl) (Below.refl _ _))
              · exact fun ac w hR hd hk K hK => nope (want_f rfl rfl ((hd 34 _ 51 rfl rfl rfl).val rfl) (by decide)) (hK _ w (PrV.is rfl rfl) (Below.refl _ _))
              · exact fun ac w hR hd hk K hK => nope (want_f rfl rfl ((hd 34 _ 51 rfl rfl rfl).val rfl) (by decide)) (hK _ w (PrV.is rfl rfl) (Below.refl _ _))
              · exact fun ac w hR hd hk K hK => yes (want_n rfl) (wp_pick _ _ _ rfl true _ ((hd 34 _ 51 rfl rfl rfl).val rfl) rfl (hK _ w (PrV.is rfl rfl) (Below.refl _ _)))
              · exact fun ac w hR hd hk K hK => yes (want_n rfl) (wp_mv _ rfl _ ((hd 38 _ 55 rfl rfl rfl).val rfl) (hK _ w (PrV.is rfl rfl) (Below.refl _ _)))
              · exact fun ac w hR hd hk K hK => nope (want_f rfl rfl ((hd 39 _ 56 rfl rfl rfl).val rfl) (by decide)) (hK _ w (PrV.is rfl rfl) (Below.refl _ _))
              · exact fun ac w hR hd hk K hK => nope (want_f rfl rfl ((hd 39 _ 56 rfl rfl rfl).val rfl) (by decide)) (hK _ w (PrV.is rfl rfl) (Below.refl _ _))
              · exact fun ac w hR hd hk K hK => nope (want_f rfl rfl ((hd 39 _ 56 rfl rfl rfl).val rfl) (by decide)) (hK _ w (PrV.is rfl rfl) (Below.refl _ _))
              · exact fun ac w hR hd hk K hK => yes (want_n rfl) (wp_pick _ _ _ rfl true _ ((hd 39 _ 56 rfl rfl rfl).val rfl) rfl (hK _ w (PrV.is rfl rfl) (Below.refl _ _)))
            · intro a w5 hdf hsz hkp hval hRw
              obtain ⟨f, hf⟩ : ∃ f, f = fun d => a.tmps.getD d undef := ⟨_, rfl⟩
              have h60 : f 60 = .bool true := by rw [hf]; exact (hval 43 _ 60 rfl rfl).val rfl
              have hfa := act_filled hdf hsz hkp
              rw [← hf] at hfa
              rw [hfa]
              clear hdf hsz hkp hval hfa hf
              clear a
              simp only [fillAll, List.set_cons_zero, List.set_cons_succ, h60]
              clear h60
              have B5 := bnext B2 hRw
              have hf := hid (hbad.out fun h => by have hh := hqi.out.1 h.2; omega)
              subst hg1
              go_wp2
              go_ret
              rw [hf.out]; exact ⟨rfl, B5⟩
          have e5 : decide (1073741824 < X2) = false := by simpa using q5
          by_cases q6 : X3 < -1
          · have e6 : decide (X3 < -1) = true := by simpa using q6
            refine wp_region_drawn (Rel := fun w w' => Below w.heap.size w w') (Pr := PrV (pv16w6 g1 g4 qb qo qk qc j X0 X1 X2 X3 pl) [] (fun _ _ _ => True)) (by kernel_rfl) (by kernel_rfl) (drew_below _) bel_tr (PrV.mono (fun _ _ _ _ _ _ => trivial)) ?_ ?_
            · refine ⟨?_, ?_, ?_, ?_, ?_, ?_, ?_, ?_, ?_, ?_, ?_, ?_, ?_, ?_, ?_, ?_, ?_, ?_, ?_, ?_, ?_, ?_, ?_, ?_, ?_, ?_, ?_, ?_, ?_, ?_, ?_, ?_, ?_, ?_, ?_, ?_, ?_, ?_, ?_, ?_, ?_, ?_, ?_, ?_, trivial⟩
              · intro ac w hR hd hk K hK
                have e4 : ac.tmps[4]?.getD undef = (.pointer (some ⟨g4, 0, none⟩) : Value) := slot (get_keep (hk 4 (no_dst (by kernel_rfl))) rfl)
                refine yes (want_n rfl) ?_
                have hv := hid (hK (.pointer (some ⟨g4, 0, none⟩)) w (PrV.is rfl rfl) (Below.refl _ _))
                go_simp
                refine kq hv.out ?_
                rfl
              · intro ac w hR hd hk K hK
                have e17 : ac.tmps[17]?.getD undef = (.pointer (some ⟨g4, 0, none⟩) : Value) := slot ((hd 0 _ 17 rfl rfl rfl).val rfl)
                have x0 := stay hR y0
                refine yes (want_n rfl) ?_
                have hv := hid (hK (.string X0) w (PrV.is rfl rfl) (Below.refl _ _))
                go_simp
                refine kq hv.out ?_
                rfl
              · exact fun ac w hR hd hk K hK => yes (want_n rfl) (wp_callv 44 _ _ rfl _ Tryz.func44 rfl rfl _ (args1 ((hd 1 _ 18 rfl rfl rfl).val rfl)) (kN w) (by rintro e w' ⟨rfl, hb⟩; exact ⟨_, rfl, hK _ w' (PrV.is rfl rfl) (by subst hb; exact Below.refl _ _)⟩))
              · intro ac w hR hd hk K hK
                have e19 : ac.tmps[19]?.getD undef = (.bool true : Value) := slot ((hd 2 _ 19 rfl rfl rfl).val rfl)
                refine yes (want_n rfl) ?_
                have hv := hid (hK (.bool false) w (PrV.is rfl rfl) (Below.refl _ _))
                go_simp
                refine kq hv.out ?_
                rfl
              · exact fun ac w hR hd hk K hK => yes (want_n rfl) (wp_mv _ rfl _ ((hd 3 _ 20 rfl rfl rfl).val rfl) (hK _ w (PrV.is rfl rfl) (Below.refl _ _)))
              · intro ac w hR hd hk K hK
                have e1 : ac.tmps[1]?.getD undef = (.pointer (some ⟨g1, 0, none⟩) : Value) := slot (get_keep (hk 1 (no_dst (by kernel_rfl))) rfl)
                refine yes (want_g rfl rfl ((hd 4 _ 21 rfl rfl rfl).val rfl)) ?_
                have hv := hid (hK (.pointer (some ⟨g1, 3, none⟩)) w (PrV.is rfl rfl) (Below.refl _ _))
                go_simp
                refine kq hv.out ?_
                rfl
              · intro ac w hR hd hk K hK
                have e22 : ac.tmps[22]?.getD undef = (.pointer (some ⟨g1, 3, none⟩) : Value) := slot ((hd 5 _ 22 rfl rfl rfl).val rfl)
                have x0 := stay hR z3
                refine yes (want_g rfl rfl ((hd 4 _ 21 rfl rfl rfl).val rfl)) ?_
                have hv := hid (hK (.slice (some ⟨qb, qo, none⟩) qk qc) w (PrV.is rfl rfl) (Below.refl _ _))
                go_simp
                refine kq hv.out ?_
                rfl
              · exact fun ac w hR hd hk K hK => yes (want_g rfl rfl ((hd 4 _ 21 rfl rfl rfl).val rfl)) (wp_mv _ rfl _ (get_keep (hk 3 (no_dst (by kernel_rfl))) rfl) (hK _ w (PrV.is rfl rfl) (Below.refl _ _)))
              · intro ac w hR hd hk K hK
                have e23 : ac.tmps[23]?.getD undef = (.slice (some ⟨qb, qo, none⟩) qk qc : Value) := slot ((hd 6 _ 23 rfl rfl rfl).val rfl)
                have e24 : ac.tmps[24]?.getD undef = (.int .i64 (j : Int) : Value) := slot ((hd 7 _ 24 rfl rfl rfl).val rfl)
                have f1 := hjc
                have f2 := hjk
                have f3 := hc0
                have f4 := hj0
                refine yes (want_g rfl rfl ((hd 4 _ 21 rfl rfl rfl).val rfl)) ?_
                have hv := hid (hK (.slice (some ⟨qb, qo, none⟩) j qc) w (PrV.is rfl rfl) (Below.refl _ _))
                go_simp
                refine kq hv.out ?_
                rfl
              · intro ac w hR hd hk K hK
                have e4 : ac.tmps[4]?.getD undef = (.pointer (some ⟨g4, 0, none⟩) : Value) := slot (get_keep (hk 4 (no_dst (by kernel_rfl))) rfl)
                refine yes (want_g rfl rfl ((hd 4 _ 21 rfl rfl rfl).val rfl)) ?_
                have hv := hid (hK (.pointer (some ⟨g4, 0, none⟩)) w (PrV.is rfl rfl) (Below.refl _ _))
                go_simp
                refine kq hv.out ?_
                rfl
              · intro ac w hR hd hk K hK
                have e26 : ac.tmps[26]?.getD undef = (.pointer (some ⟨g4, 0, none⟩) : Value) := slot ((hd 9 _ 26 rfl rfl rfl).val rfl)
                have x0 := stay hR y0
                refine yes (want_g rfl rfl ((hd 4 _ 21 rfl rfl rfl).val rfl)) ?_
                have hv := hid (hK (.string X0) w (PrV.is rfl rfl) (Below.refl _ _))
                go_simp
                refine kq hv.out ?_
                rfl
              · exact fun ac w hR hd hk K hK => yes (want_g rfl rfl ((hd 4 _ 21 rfl rfl rfl).val rfl)) (wp_callv 62 _ _ rfl _ Tryz.func62 rfl rfl _ (args2 ((hd 8 _ 25 rfl rfl rfl).val rfl) ((hd 10 _ 27 rfl rfl rfl).val rfl)) (kQ w hR) (by rintro e w' ⟨rfl, hb⟩; exact ⟨_, rfl, hK _ w' (PrV.is rfl rfl) (by subst hb; exact Below.refl _ _)⟩))
              · intro ac w hR hd hk K hK
                have e28 : ac.tmps[28]?.getD undef = (.int .i64 pl : Value) := slot ((hd 11 _ 28 rfl rfl rfl).val rfl)
                have dd := e1
                refine yes (want_g rfl rfl ((hd 4 _ 21 rfl rfl rfl).val rfl)) ?_
                have hv := hid (hK (.bool false) w (PrV.is rfl rfl) (Below.refl _ _))
                go_simp
                refine kq hv.out ?_
                rfl
              · exact fun ac w hR hd hk K hK => yes (want_n rfl) (wp_pick _ _ _ rfl false _ ((hd 4 _ 21 rfl rfl rfl).val rfl) ((hd 12 _ 29 rfl rfl rfl).val rfl) (hK _ w (PrV.is rfl rfl) (Below.refl _ _)))
              · exact fun ac w hR hd hk K hK => yes (want_n rfl) (wp_mv _ rfl _ ((hd 13 _ 30 rfl rfl rfl).val rfl) (hK _ w (PrV.is rfl rfl) (Below.refl _ _)))
              · intro ac w hR hd hk K hK
                have e4 : ac.tmps[4]?.getD undef = (.pointer (some ⟨g4, 0, none⟩) : Value) := slot (get_keep (hk 4 (no_dst (by kernel_rfl))) rfl)
                refine yes (want_g rfl rfl ((hd 14 _ 31 rfl rfl rfl).val rfl)) ?_
                have hv := hid (hK (.pointer (some ⟨g4, 1, none⟩)) w (PrV.is rfl rfl) (Below.refl _ _))
                go_simp
                refine kq hv.out ?_
                rfl
              · intro ac w hR hd hk K hK
                have e32 : ac.tmps[32]?.getD undef = (.pointer (some ⟨g4, 1, none⟩) : Value) := slot ((hd 15 _ 32 rfl rfl rfl).val rfl)
                have x0 := stay hR y1
                refine yes (want_g rfl rfl ((hd 14 _ 31 rfl rfl rfl).val rfl)) ?_
                have hv := hid (hK (.int .i64 X1) w (PrV.is rfl rfl) (Below.refl _ _))
                go_simp
                refine kq hv.out ?_
                rfl
              · intro ac w hR hd hk K hK
                have e33 : ac.tmps[33]?.getD undef = (.int .i64 X1 : Value) := slot ((hd 16 _ 33 rfl rfl rfl).val rfl)
                have dd := e2
                refine yes (want_g rfl rfl ((hd 14 _ 31 rfl rfl rfl).val rfl)) ?_
                have hv := hid (hK (.bool false) w (PrV.is rfl rfl) (Below.refl _ _))
                go_simp
                refine kq hv.out ?_
                rfl
              · exact fun ac w hR hd hk K hK => yes (want_n rfl) (wp_pick _ _ _ rfl false _ ((hd 14 _ 31 rfl rfl rfl).val rfl) ((hd 17 _ 34 rfl rfl rfl).val rfl) (hK _ w (PrV.is rfl rfl) (Below.refl _ _)))
              · exact fun ac w hR hd hk K hK => yes (want_n rfl) (wp_mv _ rfl _ ((hd 18 _ 35 rfl rfl rfl).val rfl) (hK _ w (PrV.is rfl rfl) (Below.refl _ _)))
              · intro ac w hR hd hk K hK
                have e4 : ac.tmps[4]?.getD undef = (.pointer (some ⟨g4, 0, none⟩) : Value) := slot (get_keep (hk 4 (no_dst (by kernel_rfl))) rfl)
                refine yes (want_g rfl rfl ((hd 19 _ 36 rfl rfl rfl).val rfl)) ?_
                have hv := hid (hK (.pointer (some ⟨g4, 1, none⟩)) w (PrV.is rfl rfl) (Below.refl _ _))
                go_simp
                refine kq hv.out ?_
                rfl
              · intro ac w hR hd hk K hK
                have e37 : ac.tmps[37]?.getD undef = (.pointer (some ⟨g4, 1, none⟩) : Value) := slot ((hd 20 _ 37 rfl rfl rfl).val rfl)
                have x0 := stay hR y1
                refine yes (want_g rfl rfl ((hd 19 _ 36 rfl rfl rfl).val rfl)) ?_
                have hv := hid (hK (.int .i64 X1) w (PrV.is rfl rfl) (Below.refl _ _))
                go_simp
                refine kq hv.out ?_
                rfl
              · intro ac w hR hd hk K hK
                have e38 : ac.tmps[38]?.getD undef = (.int .i64 X1 : Value) := slot ((hd 21 _ 38 rfl rfl rfl).val rfl)
                have dd := e3
                refine yes (want_g rfl rfl ((hd 19 _ 36 rfl rfl rfl).val rfl)) ?_
                have hv := hid (hK (.bool false) w (PrV.is rfl rfl) (Below.refl _ _))
                go_simp
                refine kq hv.out ?_
                rfl
              · exact fun ac w hR hd hk K hK => yes (want_n rfl) (wp_pick _ _ _ rfl false _ ((hd 19 _ 36 rfl rfl rfl).val rfl) ((hd 22 _ 39 rfl rfl rfl).val rfl) (hK _ w (PrV.is rfl rfl) (Below.refl _ _)))
              · exact fun ac w hR hd hk K hK => yes (want_n rfl) (wp_mv _ rfl _ ((hd 23 _ 40 rfl rfl rfl).val rfl) (hK _ w (PrV.is rfl rfl) (Below.refl _ _)))
              · intro ac w hR hd hk K hK
                have e4 : ac.tmps[4]?.getD undef = (.pointer (some ⟨g4, 0, none⟩) : Value) := slot (get_keep (hk 4 (no_dst (by kernel_rfl))) rfl)
                refine yes (want_g rfl rfl ((hd 24 _ 41 rfl rfl rfl).val rfl)) ?_
                have hv := hid (hK (.pointer (some ⟨g4, 2, none⟩)) w (PrV.is rfl rfl) (Below.refl _ _))
                go_simp
                refine kq hv.out ?_
                rfl
              · intro ac w hR hd hk K hK
                have e42 : ac.tmps[42]?.getD undef = (.pointer (some ⟨g4, 2, none⟩) : Value) := slot ((hd 25 _ 42 rfl rfl rfl).val rfl)
                have x0 := stay hR y2
                refine yes (want_g rfl rfl ((hd 24 _ 41 rfl rfl rfl).val rfl)) ?_
                have hv := hid (hK (.int .i64 X2) w (PrV.is rfl rfl) (Below.refl _ _))
                go_simp
                refine kq hv.out ?_
                rfl
              · intro ac w hR hd hk K hK
                have e43 : ac.tmps[43]?.getD undef = (.int .i64 X2 : Value) := slot ((hd 26 _ 43 rfl rfl rfl).val rfl)
                have dd := e4
                refine yes (want_g rfl rfl ((hd 24 _ 41 rfl rfl rfl).val rfl)) ?_
                have hv := hid (hK (.bool false) w (PrV.is rfl rfl) (Below.refl _ _))
                go_simp
                refine kq hv.out ?_
                rfl
              · exact fun ac w hR hd hk K hK => yes (want_n rfl) (wp_pick _ _ _ rfl false _ ((hd 24 _ 41 rfl rfl rfl).val rfl) ((hd 27 _ 44 rfl rfl rfl).val rfl) (hK _ w (PrV.is rfl rfl) (Below.refl _ _)))
              · exact fun ac w hR hd hk K hK => yes (want_n rfl) (wp_mv _ rfl _ ((hd 28 _ 45 rfl rfl rfl).val rfl) (hK _ w (PrV.is rfl rfl) (Below.refl _ _)))
              · intro ac w hR hd hk K hK
                have e4 : ac.tmps[4]?.getD undef = (.pointer (some ⟨g4, 0, none⟩) : Value) := slot (get_keep (hk 4 (no_dst (by kernel_rfl))) rfl)
                refine yes (want_g rfl rfl ((hd 29 _ 46 rfl rfl rfl).val rfl)) ?_
                have hv := hid (hK (.pointer (some ⟨g4, 2, none⟩)) w (PrV.is rfl rfl) (Below.refl _ _))
                go_simp
                refine kq hv.out ?_
                rfl
              · intro ac w hR hd hk K hK
                have e47 : ac.tmps[47]?.getD undef = (.pointer (some ⟨g4, 2, none⟩) : Value) := slot ((hd 30 _ 47 rfl rfl rfl).val rfl)
                have x0 := stay hR y2
                refine yes (want_g rfl rfl ((hd 29 _ 46 rfl rfl rfl).val rfl)) ?_
                have hv := hid (hK (.int .i64 X2) w (PrV.is rfl rfl) (Below.refl _ _))
                go_simp
                refine kq hv.out ?_
                rfl
              · intro ac w hR hd hk K hK
                have e48 : ac.tmps[48]?.getD undef = (.int .i64 X2 : Value) := slot ((hd 31 _ 48 rfl rfl rfl).val rfl)
                have dd := e5
                refine yes (want_g rfl rfl ((hd 29 _ 46 rfl rfl rfl).val rfl)) ?_
                have hv := hid (hK (.bool false) w (PrV.is rfl rfl) (Below.refl _ _))
                go_simp
                refine kq hv.out ?_
                rfl
              · exact fun ac w hR hd hk K hK => yes (want_n rfl) (wp_pick _ _ _ rfl false _ ((hd 29 _ 46 rfl rfl rfl).val rfl) ((hd 32 _ 49 rfl rfl rfl).val rfl) (hK _ w (PrV.is rfl rfl) (Below.refl _ _)))
              · exact fun ac w hR hd hk K hK => yes (want_n rfl) (wp_mv _ rfl _ ((hd 33 _ 50 rfl rfl rfl).val rfl) (hK _ w (PrV.is rfl rfl) (Below.refl _ _)))
              · intro ac w hR hd hk K hK
                have e4 : ac.tmps[4]?.getD undef = (.pointer (some ⟨g4, 0, none⟩) : Value) := slot (get_keep (hk 4 (no_dst (by kernel_rfl))) rfl)
                refine yes (want_g rfl rfl ((hd 34 _ 51 rfl rfl rfl).val rfl)) ?_
                have hv := hid (hK (.pointer (some ⟨g4, 3, none⟩)) w (PrV.is rfl rfl) (Below.refl _ _))
                go_simp
                refine kq hv.out ?_
                rfl
              · intro ac w hR hd hk K hK
                have e52 : ac.tmps[52]?.getD undef = (.pointer (some ⟨g4, 3, none⟩) : Value) := slot ((hd 35 _ 52 rfl rfl rfl).val rfl)
                have x0 := stay hR y3
                refine yes (want_g rfl rfl ((hd 34 _ 51 rfl rfl rfl).val rfl)) ?_
                have hv := hid (hK (.int .i64 X3) w (PrV.is rfl rfl) (Below.refl _ _))
                go_simp
                refine kq hv.out ?_
                rfl
              · intro ac w hR hd hk K hK
                have e53 : ac.tmps[53]?.getD undef = (.int .i64 X3 : Value) := slot ((hd 36 _ 53 rfl rfl rfl).val rfl)
                have dd := e6
                refine yes (want_g rfl rfl ((hd 34 _ 51 rfl rfl rfl).val rfl)) ?_
                have hv := hid (hK (.bool true) w (PrV.is rfl rfl) (Below.refl _ _))
                go_simp
                refine kq hv.out ?_
                rfl
              · exact fun ac w hR hd hk K hK => yes (want_n rfl) (wp_pick _ _ _ rfl false _ ((hd 34 _ 51 rfl rfl rfl).val rfl) ((hd 37 _ 54 rfl rfl rfl).val rfl) (hK _ w (PrV.is rfl rfl) (Below.refl _ _)))
              · exact fun ac w hR hd hk K hK => yes (want_n rfl) (wp_mv _ rfl _ ((hd 38 _ 55 rfl rfl rfl).val rfl) (hK _ w (PrV.is rfl rfl) (Below.refl _ _)))
              · exact fun ac w hR hd hk K hK => nope (want_f rfl rfl ((hd 39 _ 56 rfl rfl rfl).val rfl) (by decide)) (hK _ w (PrV.is rfl rfl) (Below.refl _ _))
              · exact fun ac w hR hd hk K hK => nope (want_f rfl rfl ((hd 39 _ 56 rfl rfl rfl).val rfl) (by decide)) (hK _ w (PrV.is rfl rfl) (Below.refl _ _))
              · exact fun ac w hR hd hk K hK => nope (want_f rfl rfl ((hd 39 _ 56 rfl rfl rfl).val rfl) (by decide)) (hK _ w (PrV.is rfl rfl) (Below.refl _ _))
              · exact fun ac w hR hd hk K hK => yes (want_n rfl) (wp_pick _ _ _ rfl true _ ((hd 39 _ 56 rfl rfl rfl).val rfl) rfl (hK _ w (PrV.is rfl rfl) (Below.refl _ _)))
            · intro a w5 hdf hsz hkp hval hRw
              obtain ⟨f, hf⟩ : ∃ f, f = fun d => a.tmps.getD d undef := ⟨_, rfl⟩
              have h60 : f 60 = .bool true := by rw [hf]; exact (hval 43 _ 60 rfl rfl).val rfl
              have hfa := act_filled hdf hsz hkp
              rw [← hf] at hfa
              rw [hfa]
              clear hdf hsz hkp hval hfa hf
              clear a
              simp only [fillAll, List.set_cons_zero, List.set_cons_succ, h60]
              clear h60
              have B5 := bnext B2 hRw
              have hf := hid (hbad.out fun h => by have hh := hqi.out.1 h.2; omega)
              subst hg1
              go_wp2
              go_ret
              rw [hf.out]; exact ⟨rfl, B5⟩
          have e6 : decide (X3 < -1) = false := by simpa using q6
          by_cases q7 : 1073741824 < X3
          · have e7 : decide (1073741824 < X3) = true := by simpa using q7
            refine wp_region_drawn (Rel := fun w w' => Below w.heap.size w w') (Pr := PrV (pv16w7 g1 g4 qb qo qk qc j X0 X1 X2 X3 pl) [] (fun _ _ _ => True)) (by kernel_rfl) (by kernel_rfl) (drew_below _) bel_tr (PrV.mono (fun _ _ _ _ _ _ => trivial)) ?_ ?_
            · refine ⟨?_, ?_, ?_, ?_, ?_, ?_, ?_, ?_, ?_, ?_, ?_, ?_, ?_, ?_, ?_, ?_, ?_, ?_, ?_, ?_, ?_, ?_, ?_, ?_, ?_, ?_, ?_, ?_, ?_, ?_, ?_, ?_, ?_, ?_, ?_, ?_, ?_, ?_, ?_, ?_, ?_, ?_, ?_, ?_, trivial⟩
              · intro ac w hR hd hk K hK
                have e4 : ac.tmps[4]?.getD undef = (.pointer (some ⟨g4, 0, none⟩) : Value) := slot (get_keep (hk 4 (no_dst (by kernel_rfl))) rfl)
                refine yes (want_n rfl) ?_
                have hv := hid (hK (.pointer (some ⟨g4, 0, none⟩)) w (PrV.is rfl rfl) (Below.refl _ _))
                go_simp
                refine kq hv.out ?_
                rfl
              · intro ac w hR hd hk K hK
                have e17 : ac.tmps[17]?.getD undef = (.pointer (some ⟨g4, 0, none⟩) : Value) := slot ((hd 0 _ 17 rfl rfl rfl).val rfl)
                have x0 := stay hR y0
                refine yes (want_n rfl) ?_
                have hv := hid (hK (.string X0) w (PrV.is rfl rfl) (Below.refl _ _))
                go_simp
                refine kq hv.out ?_
                rfl
              · exact fun ac w hR hd hk K hK => yes (want_n rfl) (wp_callv 44 _ _ rfl _ Tryz.func44 rfl rfl _ (args1 ((hd 1 _ 18 rfl rfl rfl).val rfl)) (kN w) (by rintro e w' ⟨rfl, hb⟩; exact ⟨_, rfl, hK _ w' (PrV.is rfl rfl) (by subst hb; exact Below.refl _ _)⟩))
              · intro ac w hR hd hk K hK
                have e19 : ac.tmps[19]?.getD undef = (.bool true : Value) := slot ((hd 2 _ 19 rfl rfl rfl).val rfl)
                refine yes (want_n rfl) ?_
                have hv := hid (hK (.bool false) w (PrV.is rfl rfl) (Below.refl _ _))
                go_simp
                refine kq hv.out ?_
                rfl
              · exact fun ac w hR hd hk K hK => yes (want_n rfl) (wp_mv _ rfl _ ((hd 3 _ 20 rfl rfl rfl).val rfl) (hK _ w (PrV.is rfl rfl) (Below.refl _ _)))
              · intro ac w hR hd hk K hK
                have e1 : ac.tmps[1]?.getD undef = (.pointer (some ⟨g1, 0, none⟩) : Value) := slot (get_keep (hk 1 (no_dst (by kernel_rfl))) rfl)
                refine yes (want_g rfl rfl ((hd 4 _ 21 rfl rfl rfl).val rfl)) ?_
                have hv := hid (hK (.pointer (some ⟨g1, 3, none⟩)) w (PrV.is rfl rfl) (Below.refl _ _))
                go_simp
                refine kq hv.out ?_
                rfl
              · intro ac w hR hd hk K hK
                have e22 : ac.tmps[22]?.getD undef = (.pointer (some ⟨g1, 3, none⟩) : Value) := slot ((hd 5 _ 22 rfl rfl rfl).val rfl)
                have x0 := stay hR z3
                refine yes (want_g rfl rfl ((hd 4 _ 21 rfl rfl rfl).val rfl)) ?_
                have hv := hid (hK (.slice (some ⟨qb, qo, none⟩) qk qc) w (PrV.is rfl rfl) (Below.refl _ _))
                go_simp
                refine kq hv.out ?_
                rfl
              · exact fun ac w hR hd hk K hK => yes (want_g rfl rfl ((hd 4 _ 21 rfl rfl rfl).val rfl)) (wp_mv _ rfl _ (get_keep (hk 3 (no_dst (by kernel_rfl))) rfl) (hK _ w (PrV.is rfl rfl) (Below.refl _ _)))
              · intro ac w hR hd hk K hK
                have e23 : ac.tmps[23]?.getD undef = (.slice (some ⟨qb, qo, none⟩) qk qc : Value) := slot ((hd 6 _ 23 rfl rfl rfl).val rfl)
                have e24 : ac.tmps[24]?.getD undef = (.int .i64 (j : Int) : Value) := slot ((hd 7 _ 24 rfl rfl rfl).val rfl)
                have f1 := hjc
                have f2 := hjk
                have f3 := hc0
                have f4 := hj0
                refine yes (want_g rfl rfl ((hd 4 _ 21 rfl rfl rfl).val rfl)) ?_
                have hv := hid (hK (.slice (some ⟨qb, qo, none⟩) j qc) w (PrV.is rfl rfl) (Below.refl _ _))
                go_simp
                refine kq hv.out ?_
                rfl
              · intro ac w hR hd hk K hK
                have e4 : ac.tmps[4]?.getD undef = (.pointer (some ⟨g4, 0, none⟩) : Value) := slot (get_keep (hk 4 (no_dst (by kernel_rfl))) rfl)
                refine yes (want_g rfl rfl ((hd 4 _ 21 rfl rfl rfl).val rfl)) ?_
                have hv := hid (hK (.pointer (some ⟨g4, 0, none⟩)) w (PrV.is rfl rfl) (Below.refl _ _))
                go_simp
                refine kq hv.out ?_
                rfl
              · intro ac w hR hd hk K hK
                have e26 : ac.tmps[26]?.getD undef = (.pointer (some ⟨g4, 0, none⟩) : Value) := slot ((hd 9 _ 26 rfl rfl rfl).val rfl)
                have x0 := stay hR y0
                refine yes (want_g rfl rfl ((hd 4 _ 21 rfl rfl rfl).val rfl)) ?_
                have hv := hid (hK (.string X0) w (PrV.is rfl rfl) (Below.refl _ _))
                go_simp
                refine kq hv.out ?_
                rfl
              · exact fun ac w hR hd hk K hK => yes (want_g rfl rfl ((hd 4 _ 21 rfl rfl rfl).val rfl)) (wp_callv 62 _ _ rfl _ Tryz.func62 rfl rfl _ (args2 ((hd 8 _ 25 rfl rfl rfl).val rfl) ((hd 10 _ 27 rfl rfl rfl).val rfl)) (kQ w hR) (by rintro e w' ⟨rfl, hb⟩; exact ⟨_, rfl, hK _ w' (PrV.is rfl rfl) (by subst hb; exact Below.refl _ _)⟩))
              · intro ac w hR hd hk K hK
                have e28 : ac.tmps[28]?.getD undef = (.int .i64 pl : Value) := slot ((hd 11 _ 28 rfl rfl rfl).val rfl)
                have dd := e1
                refine yes (want_g rfl rfl ((hd 4 _ 21 rfl rfl rfl).val rfl)) ?_
                have hv := hid (hK (.bool false) w (PrV.is rfl rfl) (Below.refl _ _))
                go_simp
                refine kq hv.out ?_
                rfl
              · exact fun ac w hR hd hk K hK => yes (want_n rfl) (wp_pick _ _ _ rfl false _ ((hd 4 _ 21 rfl rfl rfl).val rfl) ((hd 12 _ 29 rfl rfl rfl).val rfl) (hK _ w (PrV.is rfl rfl) (Below.refl _ _)))
              · exact fun ac w hR hd hk K hK => yes (want_n rfl) (wp_mv _ rfl _ ((hd 13 _ 30 rfl rfl rfl).val rfl) (hK _ w (PrV.is rfl rfl) (Below.refl _ _)))
              · intro ac w hR hd hk K hK
                have e4 : ac.tmps[4]?.getD undef = (.pointer (some ⟨g4, 0, none⟩) : Value) := slot (get_keep (hk 4 (no_dst (by kernel_rfl))) rfl)
                refine yes (want_g rfl rfl ((hd 14 _ 31 rfl rfl rfl).val rfl)) ?_
                have hv := hid (hK (.pointer (some ⟨g4, 1, none⟩)) w (PrV.is rfl rfl) (Below.refl _ _))
                go_simp
                refine kq hv.out ?_
                rfl
              · intro ac w hR hd hk K hK
                have e32 : ac.tmps[32]?.getD undef = (.pointer (some ⟨g4, 1, none⟩) : Value) := slot ((hd 15 _ 32 rfl rfl rfl).val rfl)
                have x0 := stay hR y1
                refine yes (want_g rfl rfl ((hd 14 _ 31 rfl rfl rfl).val rfl)) ?_
                have hv := hid (hK (.int .i64 X1) w (PrV.is rfl rfl) (Below.refl _ _))
                go_simp
                refine kq hv.out ?_
                rfl
              · intro ac w hR hd hk K hK
                have e33 : ac.tmps[33]?.getD undef = (.int .i64 X1 : Value) := slot ((hd 16 _ 33 rfl rfl rfl).val rfl)
                have dd := e2
                refine yes (want_g rfl rfl ((hd 14 _ 31 rfl rfl rfl).val rfl)) ?_
                have hv := hid (hK (.bool false) w (PrV.is rfl rfl) (Below.refl _ _))
                go_simp
                refine kq hv.out ?_
                rfl
              · exact fun ac w hR hd hk K hK => yes (want_n rfl) (wp_pick _ _ _ rfl false _ ((hd 14 _ 31 rfl rfl rfl).val rfl) ((hd 17 _ 34 rfl rfl rfl).val rfl) (hK _ w (PrV.is rfl rfl) (Below.refl _ _)))
              · exact fun ac w hR hd hk K hK => yes (want_n rfl) (wp_mv _ rfl _ ((hd 18 _ 35 rfl rfl rfl).val rfl) (hK _ w (PrV.is rfl rfl) (Below.refl _ _)))
              · intro ac w hR hd hk K hK
                have e4 : ac.tmps[4]?.getD undef = (.pointer (some ⟨g4, 0, none⟩) : Value) := slot (get_keep (hk 4 (no_dst (by kernel_rfl))) rfl)
                refine yes (want_g rfl rfl ((hd 19 _ 36 rfl rfl rfl).val rfl)) ?_
                have hv := hid (hK (.pointer (some ⟨g4, 1, none⟩)) w (PrV.is rfl rfl) (Below.refl _ _))
                go_simp
                refine kq hv.out ?_
                rfl
              · intro ac w hR hd hk K hK
                have e37 : ac.tmps[37]?.getD undef = (.pointer (some ⟨g4, 1, none⟩) : Value) := slot ((hd 20 _ 37 rfl rfl rfl).val rfl)
                have x0 := stay hR y1
                refine yes (want_g rfl rfl ((hd 19 _ 36 rfl rfl rfl).val rfl)) ?_
                have hv := hid (hK (.int .i64 X1) w (PrV.is rfl rfl) (Below.refl _ _))
                go_simp
                refine kq hv.out ?_
                rfl
              · intro ac w hR hd hk K hK
                have e38 : ac.tmps[38]?.getD undef = (.int .i64 X1 : Value) := slot ((hd 21 _ 38 rfl rfl rfl).val rfl)
                have dd := e3
                refine yes (want_g rfl rfl ((hd 19 _ 36 rfl rfl rfl).val rfl)) ?_
                have hv := hid (hK (.bool false) w (PrV.is rfl rfl) (Below.refl _ _))
                go_simp
                refine kq hv.out ?_
                rfl
              · exact fun ac w hR hd hk K hK => yes (want_n rfl) (wp_pick _ _ _ rfl false _ ((hd 19 _ 36 rfl rfl rfl).val rfl) ((hd 22 _ 39 rfl rfl rfl).val rfl) (hK _ w (PrV.is rfl rfl) (Below.refl _ _)))
              · exact fun ac w hR hd hk K hK => yes (want_n rfl) (wp_mv _ rfl _ ((hd 23 _ 40 rfl rfl rfl).val rfl) (hK _ w (PrV.is rfl rfl) (Below.refl _ _)))
              · intro ac w hR hd hk K hK
                have e4 : ac.tmps[4]?.getD undef = (.pointer (some ⟨g4, 0, none⟩) : Value) := slot (get_keep (hk 4 (no_dst (by kernel_rfl))) rfl)
                refine yes (want_g rfl rfl ((hd 24 _ 41 rfl rfl rfl).val rfl)) ?_
                have hv := hid (hK (.pointer (some ⟨g4, 2, none⟩)) w (PrV.is rfl rfl) (Below.refl _ _))
                go_simp
                refine kq hv.out ?_
                rfl
              · intro ac w hR hd hk K hK
                have e42 : ac.tmps[42]?.getD undef = (.pointer (some ⟨g4, 2, none⟩) : Value) := slot ((hd 25 _ 42 rfl rfl rfl).val rfl)
                have x0 := stay hR y2
                refine yes (want_g rfl rfl ((hd 24 _ 41 rfl rfl rfl).val rfl)) ?_
                have hv := hid (hK (.int .i64 X2) w (PrV.is rfl rfl) (Below.refl _ _))
                go_simp
                refine kq hv.out ?_
                rfl
              · intro ac w hR hd hk K hK
                have e43 : ac.tmps[43]?.getD undef = (.int .i64 X2 : Value) := slot ((hd 26 _ 43 rfl rfl rfl).val rfl)
                have dd := e4
                refine yes (want_g rfl rfl ((hd 24 _ 41 rfl rfl rfl).val rfl)) ?_
                have hv := hid (hK (.bool false) w (PrV.is rfl rfl) (Below.refl _ _))
                go_simp
                refine kq hv.out ?_
                rfl
              · exact fun ac w hR hd hk K hK => yes (want_n rfl) (wp_pick _ _ _ rfl false _ ((hd 24 _ 41 rfl rfl rfl).val rfl) ((hd 27 _ 44 rfl rfl rfl).val rfl) (hK _ w (PrV.is rfl rfl) (Below.refl _ _)))
              · exact fun ac w hR hd hk K hK => yes (want_n rfl) (wp_mv _ rfl _ ((hd 28 _ 45 rfl rfl rfl).val rfl) (hK _ w (PrV.is rfl rfl) (Below.refl _ _)))
              · intro ac w hR hd hk K hK
                have e4 : ac.tmps[4]?.getD undef = (.pointer (some ⟨g4, 0, none⟩) : Value) := slot (get_keep (hk 4 (no_dst (by kernel_rfl))) rfl)
                refine yes (want_g rfl rfl ((hd 29 _ 46 rfl rfl rfl).val rfl)) ?_
                have hv := hid (hK (.pointer (some ⟨g4, 2, none⟩)) w (PrV.is rfl rfl) (Below.refl _ _))
                go_simp
                refine kq hv.out ?_
                rfl
              · intro ac w hR hd hk K hK
                have e47 : ac.tmps[47]?.getD undef = (.pointer (some ⟨g4, 2, none⟩) : Value) := slot ((hd 30 _ 47 rfl rfl rfl).val rfl)
                have x0 := stay hR y2
                refine yes (want_g rfl rfl ((hd 29 _ 46 rfl rfl rfl).val rfl)) ?_
                have hv := hid (hK (.int .i64 X2) w (PrV.is rfl rfl) (Below.refl _ _))
                go_simp
                refine kq hv.out ?_
                rfl
              · intro ac w hR hd hk K hK
                have e48 : ac.tmps[48]?.getD undef = (.int .i64 X2 : Value) := slot ((hd 31 _ 48 rfl rfl rfl).val rfl)
                have dd := e5
                refine yes (want_g rfl rfl ((hd 29 _ 46 rfl rfl rfl).val rfl)) ?_
                have hv := hid (hK (.bool false) w (PrV.is rfl rfl) (Below.refl _ _))
                go_simp
                refine kq hv.out ?_
                rfl
              · exact fun ac w hR hd hk K hK => yes (want_n rfl) (wp_pick _ _ _ rfl false _ ((hd 29 _ 46 rfl rfl rfl).val rfl) ((hd 32 _ 49 rfl rfl rfl).val rfl) (hK _ w (PrV.is rfl rfl) (Below.refl _ _)))
              · exact fun ac w hR hd hk K hK => yes (want_n rfl) (wp_mv _ rfl _ ((hd 33 _ 50 rfl rfl rfl).val rfl) (hK _ w (PrV.is rfl rfl) (Below.refl _ _)))
              · intro ac w hR hd hk K hK
                have e4 : ac.tmps[4]?.getD undef = (.pointer (some ⟨g4, 0, none⟩) : Value) := slot (get_keep (hk 4 (no_dst (by kernel_rfl))) rfl)
                refine yes (want_g rfl rfl ((hd 34 _ 51 rfl rfl rfl).val rfl)) ?_
                have hv := hid (hK (.pointer (some ⟨g4, 3, none⟩)) w (PrV.is rfl rfl) (Below.refl _ _))
                go_simp
                refine kq hv.out ?_
                rfl
              · intro ac w hR hd hk K hK
                have e52 : ac.tmps[52]?.getD undef = (.pointer (some ⟨g4, 3, none⟩) : Value) := slot ((hd 35 _ 52 rfl rfl rfl).val rfl)
                have x0 := stay hR y3
                refine yes (want_g rfl rfl ((hd 34 _ 51 rfl rfl rfl).val rfl)) ?_
                have hv := hid (hK (.int .i64 X3) w (PrV.is rfl rfl) (Below.refl _ _))
                go_simp
                refine kq hv.out ?_
                rfl
              · intro ac w hR hd hk K hK
                have e53 : ac.tmps[53]?.getD undef = (.int .i64 X3 : Value) := slot ((hd 36 _ 53 rfl rfl rfl).val rfl)
                have dd := e6
                refine yes (want_g rfl rfl ((hd 34 _ 51 rfl rfl rfl).val rfl)) ?_
                have hv := hid (hK (.bool false) w (PrV.is rfl rfl) (Below.refl _ _))
                go_simp
                refine kq hv.out ?_
                rfl
              · exact fun ac w hR hd hk K hK => yes (want_n rfl) (wp_pick _ _ _ rfl false _ ((hd 34 _ 51 rfl rfl rfl).val rfl) ((hd 37 _ 54 rfl rfl rfl).val rfl) (hK _ w (PrV.is rfl rfl) (Below.refl _ _)))
              · exact fun ac w hR hd hk K hK => yes (want_n rfl) (wp_mv _ rfl _ ((hd 38 _ 55 rfl rfl rfl).val rfl) (hK _ w (PrV.is rfl rfl) (Below.refl _ _)))
              · intro ac w hR hd hk K hK
                have e4 : ac.tmps[4]?.getD undef = (.pointer (some ⟨g4, 0, none⟩) : Value) := slot (get_keep (hk 4 (no_dst (by kernel_rfl))) rfl)
                refine yes (want_g rfl rfl ((hd 39 _ 56 rfl rfl rfl).val rfl)) ?_
                have hv := hid (hK (.pointer (some ⟨g4, 3, none⟩)) w (PrV.is rfl rfl) (Below.refl _ _))
                go_simp
                refine kq hv.out ?_
                rfl
              · intro ac w hR hd hk K hK
                have e57 : ac.tmps[57]?.getD undef = (.pointer (some ⟨g4, 3, none⟩) : Value) := slot ((hd 40 _ 57 rfl rfl rfl).val rfl)
                have x0 := stay hR y3
                refine yes (want_g rfl rfl ((hd 39 _ 56 rfl rfl rfl).val rfl)) ?_
                have hv := hid (hK (.int .i64 X3) w (PrV.is rfl rfl) (Below.refl _ _))
                go_simp
                refine kq hv.out ?_
                rfl
              · intro ac w hR hd hk K hK
                have e58 : ac.tmps[58]?.getD undef = (.int .i64 X3 : Value) := slot ((hd 41 _ 58 rfl rfl rfl).val rfl)
                have dd := e7
                refine yes (want_g rfl rfl ((hd 39 _ 56 rfl rfl rfl).val rfl)) ?_
                have hv := hid (hK (.bool true) w (PrV.is rfl rfl) (Below.refl _ _))
                go_simp
                refine kq hv.out ?_
                rfl
              · exact fun ac w hR hd hk K hK => yes (want_n rfl) (wp_pick _ _ _ rfl false _ ((hd 39 _ 56 rfl rfl rfl).val rfl) ((hd 42 _ 59 rfl rfl rfl).val rfl) (hK _ w (PrV.is rfl rfl) (Below.refl _ _)))
            · intro a w5 hdf hsz hkp hval hRw
              obtain ⟨f, hf⟩ : ∃ f, f = fun d => a.tmps.getD d undef := ⟨_, rfl⟩
              have h60 : f 60 = .bool true := by rw [hf]; exact (hval 43 _ 60 rfl rfl).val rfl
              have hfa := act_filled hdf hsz hkp
              rw [← hf] at hfa
              rw [hfa]
              clear hdf hsz hkp hval hfa hf
              clear a
              simp only [fillAll, List.set_cons_zero, List.set_cons_succ, h60]
              clear h60
              have B5 := bnext B2 hRw
              have hf := hid (hbad.out fun h => by have hh := hqi.out.1 h.2; omega)
              subst hg1
              go_wp2
              go_ret
              rw [hf.out]; exact ⟨rfl, B5⟩
          have e7 : decide (1073741824 < X3) = false := by simpa using q7
          refine wp_region_drawn (Rel := fun w w' => Below w.heap.size w w') (Pr := PrV (pv16w8 g1 g4 qb qo qk qc j X0 X1 X2 X3 pl) [] (fun _ _ _ => True)) (by kernel_rfl) (by kernel_rfl) (drew_below _) bel_tr (PrV.mono (fun _ _ _ _ _ _ => trivial)) ?_ ?_
          · refine ⟨?_, ?_, ?_, ?_, ?_, ?_, ?_, ?_, ?_, ?_, ?_, ?_, ?_, ?_, ?_, ?_, ?_, ?_, ?_, ?_, ?_, ?_, ?_, ?_, ?_, ?_, ?_, ?_, ?_, ?_, ?_, ?_, ?_, ?_, ?_, ?_, ?_, ?_, ?_, ?_, ?_, ?_, ?_, ?_, trivial⟩
            · intro ac w hR hd hk K hK
              have e4 : ac.tmps[4]?.getD undef = (.pointer (some ⟨g4, 0, none⟩) : Value) := slot (get_keep (hk 4 (no_dst (by kernel_rfl))) rfl)
              refine yes (want_n rfl) ?_
              have hv := hid (hK (.pointer (some ⟨g4, 0, none⟩)) w (PrV.is rfl rfl) (Below.refl _ _))
              go_simp
              refine kq hv.out ?_
              rfl
            · intro ac w hR hd hk K hK
              have e17 : ac.tmps[17]?.getD undef = (.pointer (some ⟨g4, 0, none⟩) : Value) := slot ((hd 0 _ 17 rfl rfl rfl).val rfl)
              have x0 := stay hR y0
              refine yes (want_n rfl) ?_
              have hv := hid (hK (.string X0) w (PrV.is rfl rfl) (Below.refl _ _))
              go_simp
              refine kq hv.out ?_
              rfl
            · exact fun ac w hR hd hk K hK => yes (want_n rfl) (wp_callv 44 _ _ rfl _ Tryz.func44 rfl rfl _ (args1 ((hd 1 _ 18 rfl rfl rfl).val rfl)) (kN w) (by rintro e w' ⟨rfl, hb⟩; exact ⟨_, rfl, hK _ w' (PrV.is rfl rfl) (by subst hb; exact Below.refl _ _)⟩))
            · intro ac w hR hd hk K hK
              have e19 : ac.tmps[19]?.getD undef = (.bool true : Value) := slot ((hd 2 _ 19 rfl rfl rfl).val rfl)
              refine yes (want_n rfl) ?_
              have hv := hid (hK (.bool false) w (PrV.is rfl rfl) (Below.refl _ _))
              go_simp
              refine kq hv.out ?_
              rfl
            · exact fun ac w hR hd hk K hK => yes (want_n rfl) (wp_mv _ rfl _ ((hd 3 _ 20 rfl rfl rfl).val rfl) (hK _ w (PrV.is rfl rfl) (Below.refl _ _)))
            · intro ac w hR hd hk K hK
              have e1 : ac.tmps[1]?.getD undef = (.pointer (some ⟨g1, 0, none⟩) : Value) := slot (get_keep (hk 1 (no_dst (by kernel_rfl))) rfl)
              refine yes (want_g rfl rfl ((hd 4 _ 21 rfl rfl rfl).val rfl)) ?_
              have hv := hid (hK (.pointer (some ⟨g1, 3, none⟩)) w (PrV.is rfl rfl) (Below.refl _ _))
              go_simp
              refine kq hv.out ?_
              rfl
            · intro ac w hR hd hk K hK
              have e22 : ac.tmps[22]?.getD undef = (.pointer (some ⟨g1, 3, none⟩) : Value) := slot ((hd 5 _ 22 rfl rfl rfl).val rfl)
              have x0 := stay hR z3
              refine yes (want_g rfl rfl ((hd 4 _ 21 rfl rfl rfl).val rfl)) ?_
              have hv := hid (hK (.slice (some ⟨qb, qo, none⟩) qk qc) w (PrV.is rfl rfl) (Below.refl _ _))
              go_simp
              refine kq hv.out ?_
              rfl
            · exact fun ac w hR hd hk K hK => yes (want_g rfl rfl ((hd 4 _ 21 rfl rfl rfl).val rfl)) (wp_mv _ rfl _ (get_keep (hk 3 (no_dst (by kernel_rfl))) rfl) (hK _ w (PrV.is rfl rfl) (Below.refl _ _)))
            · intro ac w hR hd hk K hK
              have e23 : ac.tmps[23]?.getD undef = (.slice (some ⟨qb, qo, none⟩) qk qc : Value) := slot ((hd 6 _ 23 rfl rfl rfl).val rfl)
              have e24 : ac.tmps[24]?.getD undef = (.int .i64 (j : Int) : Value) := slot ((hd 7 _ 24 rfl rfl rfl).val rfl)
              have f1 := hjc
              have f2 := hjk
              have f3 := hc0
              have f4 := hj0
              refine yes (want_g rfl rfl ((hd 4 _ 21 rfl rfl rfl).val rfl)) ?_
              have hv := hid (hK (.slice (some ⟨qb, qo, none⟩) j qc) w (PrV.is rfl rfl) (Below.refl _ _))
              go_simp
              refine kq hv.out ?_
              rfl
            · intro ac w hR hd hk K hK
              have e4 : ac.tmps[4]?.getD undef = (.pointer (some ⟨g4, 0, none⟩) : Value) := slot (get_keep (hk 4 (no_dst (by kernel_rfl))) rfl)
              refine yes (want_g rfl rfl ((hd 4 _ 21 rfl rfl rfl).val rfl)) ?_
              have hv := hid (hK (.pointer (some ⟨g4, 0, none⟩)) w (PrV.is rfl rfl) (Below.refl _ _))
              go_simp
              refine kq hv.out ?_
              rfl
            · intro ac w hR hd hk K hK
              have e26 : ac.tmps[26]?.getD undef = (.pointer (some ⟨g4, 0, none⟩) : Value) := slot ((hd 9 _ 26 rfl rfl rfl).val rfl)
              have x0 := stay hR y0
              refine yes (want_g rfl rfl ((hd 4 _ 21 rfl rfl rfl).val rfl)) ?_
              have hv := hid (hK (.string X0) w (PrV.is rfl rfl) (Below.refl _ _))
              go_simp
              refine kq hv.out ?_
              rfl
            · exact fun ac w hR hd hk K hK => yes (want_g rfl rfl ((hd 4 _ 21 rfl rfl rfl).val rfl)) (wp_callv 62 _ _ rfl _ Tryz.func62 rfl rfl _ (args2 ((hd 8 _ 25 rfl rfl rfl).val rfl) ((hd 10 _ 27 rfl rfl rfl).val rfl)) (kQ w hR) (by rintro e w' ⟨rfl, hb⟩; exact ⟨_, rfl, hK _ w' (PrV.is rfl rfl) (by subst hb; exact Below.refl _ _)⟩))
            · intro ac w hR hd hk K hK
              have e28 : ac.tmps[28]?.getD undef = (.int .i64 pl : Value) := slot ((hd 11 _ 28 rfl rfl rfl).val rfl)
              have dd := e1
              refine yes (want_g rfl rfl ((hd 4 _ 21 rfl rfl rfl).val rfl)) ?_
              have hv := hid (hK (.bool false) w (PrV.is rfl rfl) (Below.refl _ _))
              go_simp
              refine kq hv.out ?_
              rfl
            · exact fun ac w hR hd hk K hK => yes (want_n rfl) (wp_pick _ _ _ rfl false _ ((hd 4 _ 21 rfl rfl rfl).val rfl) ((hd 12 _ 29 rfl rfl rfl).val rfl) (hK _ w (PrV.is rfl rfl) (Below.refl _ _)))
            · exact fun ac w hR hd hk K hK => yes (want_n rfl) (wp_mv _ rfl _ ((hd 13 _ 30 rfl rfl rfl).val rfl) (hK _ w (PrV.is rfl rfl) (Below.refl _ _)))
            · intro ac w hR hd hk K hK
              have e4 : ac.tmps[4]?.getD undef = (.pointer (some ⟨g4, 0, none⟩) : Value) := slot (get_keep (hk 4 (no_dst (by kernel_rfl))) rfl)
              refine yes (want_g rfl rfl ((hd 14 _ 31 rfl rfl rfl).val rfl)) ?_
              have hv := hid (hK (.pointer (some ⟨g4, 1, none⟩)) w (PrV.is rfl rfl) (Below.refl _ _))
              go_simp
              refine kq hv.out ?_
              rfl
            · intro ac w hR hd hk K hK
              have e32 : ac.tmps[32]?.getD undef = (.pointer (some ⟨g4, 1, none⟩) : Value) := slot ((hd 15 _ 32 rfl rfl rfl).val rfl)
              have x0 := stay hR y1
              refine yes (want_g rfl rfl ((hd 14 _ 31 rfl rfl rfl).val rfl)) ?_
              have hv := hid (hK (.int .i64 X1) w (PrV.is rfl rfl) (Below.refl _ _))
              go_simp
              refine kq hv.out ?_
              rfl
            · intro ac w hR hd hk K hK
              have e33 : ac.tmps[33]?.getD undef = (.int .i64 X1 : Value) := slot ((hd 16 _ 33 rfl rfl rfl).val rfl)
              have dd := e2
              refine yes (want_g rfl rfl ((hd 14 _ 31 rfl rfl rfl).val rfl)) ?_
              have hv := hid (hK (.bool false) w (PrV.is rfl rfl) (Below.refl _ _))
              go_simp
              refine kq hv.out ?_
              rfl
            · exact fun ac w hR hd hk K hK => yes (want_n rfl) (wp_pick _ _ _ rfl false _ ((hd 14 _ 31 rfl rfl rfl).val rfl) ((hd 17 _ 34 rfl rfl rfl).val rfl) (hK _ w (PrV.is rfl rfl) (Below.refl _ _)))
            · exact fun ac w hR hd hk K hK => yes (want_n rfl) (wp_mv _ rfl _ ((hd 18 _ 35 rfl rfl rfl).val rfl) (hK _ w (PrV.is rfl rfl) (Below.refl _ _)))
            · intro ac w hR hd hk K hK
              have e4 : ac.tmps[4]?.getD undef = (.pointer (some ⟨g4, 0, none⟩) : Value) := slot (get_keep (hk 4 (no_dst (by kernel_rfl))) rfl)
              refine yes (want_g rfl rfl ((hd 19 _ 36 rfl rfl rfl).val rfl)) ?_
              have hv := hid (hK (.pointer (some ⟨g4, 1, none⟩)) w (PrV.is rfl rfl) (Below.refl _ _))
              go_simp
              refine kq hv.out ?_
              rfl
            · intro ac w hR hd hk K hK
              have e37 : ac.tmps[37]?.getD undef = (.pointer (some ⟨g4, 1, none⟩) : Value) := slot ((hd 20 _ 37 rfl rfl rfl).val rfl)
              have x0 := stay hR y1
              refine yes (want_g rfl rfl ((hd 19 _ 36 rfl rfl rfl).val rfl)) ?_
              have hv := hid (hK (.int .i64 X1) w (PrV.is rfl rfl) (Below.refl _ _))
              go_simp
              refine kq hv.out ?_
              rfl
            · intro ac w hR hd hk K hK
              have e38 : ac.tmps[38]?.getD undef = (.int .i64 X1 : Value) := slot ((hd 21 _ 38 rfl rfl rfl).val rfl)
              have dd := e3
              refine yes (want_g rfl rfl ((hd 19 _ 36 rfl rfl rfl).val rfl)) ?_
              have hv := hid (hK (.bool false) w (PrV.is rfl rfl) (Below.refl _ _))
              go_simp
              refine kq hv.out ?_
              rfl
            · exact fun ac w hR hd hk K hK => yes (want_n rfl) (wp_pick _ _ _ rfl false _ ((hd 19 _ 36 rfl rfl rfl).val rfl) ((hd 22 _ 39 rfl rfl rfl).val rfl) (hK _ w (PrV.is rfl rfl) (Below.refl _ _)))
            · exact fun ac w hR hd hk K hK => yes (want_n rfl) (wp_mv _ rfl _ ((hd 23 _ 40 rfl rfl rfl).val rfl) (hK _ w (PrV.is rfl rfl) (Below.refl _ _)))
            · intro ac w hR hd hk K hK
              have e4 : ac.tmps[4]?.getD undef = (.pointer (some ⟨g4, 0, none⟩) : Value) := slot (get_keep (hk 4 (no_dst (by kernel_rfl))) rfl)
              refine yes (want_g rfl rfl ((hd 24 _ 41 rfl rfl rfl).val rfl)) ?_
              have hv := hid (hK (.pointer (some ⟨g4, 2, none⟩)) w (PrV.is rfl rfl) (Below.refl _ _))
              go_simp
              refine kq hv.out ?_
              rfl
            · intro ac w hR hd hk K hK
              have e42 : ac.tmps[42]?.getD undef = (.pointer (some ⟨g4, 2, none⟩) : Value) := slot ((hd 25 _ 42 rfl rfl rfl).val rfl)
              have x0 := stay hR y2
              refine yes (want_g rfl rfl ((hd 24 _ 41 rfl rfl rfl).val rfl)) ?_
              have hv := hid (hK (.int .i64 X2) w (PrV.is rfl rfl) (Below.refl _ _))
              go_simp
              refine kq hv.out ?_
              rfl
            · intro ac w hR hd hk K hK
              have e43 : ac.tmps[43]?.getD undef = (.int .i64 X2 : Value) := slot ((hd 26 _ 43 rfl rfl rfl).val rfl)
              have dd := e4
              refine yes (want_g rfl rfl ((hd 24 _ 41 rfl rfl rfl).val rfl)) ?_
              have hv := hid (hK (.bool false) w (PrV.is rfl rfl) (Below.refl _ _))
              go_simp
              refine kq hv.out ?_
              rfl
            · exact fun ac w hR hd hk K hK => yes (want_n rfl) (wp_pick _ _ _ rfl false _ ((hd 24 _ 41 rfl rfl rfl).val rfl) ((hd 27 _ 44 rfl rfl rfl).val rfl) (hK _ w (PrV.is rfl rfl) (Below.refl _ _)))
            · exact fun ac w hR hd hk K hK => yes (want_n rfl) (wp_mv _ rfl _ ((hd 28 _ 45 rfl rfl rfl).val rfl) (hK _ w (PrV.is rfl rfl) (Below.refl _ _)))
            · intro ac w hR hd hk K hK
              have e4 : ac.tmps[4]?.getD undef = (.pointer (some ⟨g4, 0, none⟩) : Value) := slot (get_keep (hk 4 (no_dst (by kernel_rfl))) rfl)
              refine yes (want_g rfl rfl ((hd 29 _ 46 rfl rfl rfl).val rfl)) ?_
              have hv := hid (hK (.pointer (some ⟨g4, 2, none⟩)) w (PrV.is rfl rfl) (Below.refl _ _))
              go_simp
              refine kq hv.out ?_
              rfl
            · intro ac w hR hd hk K hK
              have e47 : ac.tmps[47]?.getD undef = (.pointer (some ⟨g4, 2, none⟩) : Value) := slot ((hd 30 _ 47 rfl rfl rfl).val rfl)
              have x0 := stay hR y2
              refine yes (want_g rfl rfl ((hd 29 _ 46 rfl rfl rfl).val rfl)) ?_
              have hv := hid (hK (.int .i64 X2) w (PrV.is rfl rfl) (Below.refl _ _))
              go_simp
              refine kq hv.out ?_
              rfl
            · intro ac w hR hd hk K hK
              have e48 : ac.tmps[48]?.getD undef = (.int .i64 X2 : Value) := slot ((hd 31 _ 48 rfl rfl rfl).val rfl)
              have dd := e5
              refine yes (want_g rfl rfl ((hd 29 _ 46 rfl rfl rfl).val rfl)) ?_
              have hv := hid (hK (.bool false) w (PrV.is rfl rfl) (Below.refl _ _))
              go_simp
              refine kq hv.out ?_
              rfl
            · exact fun ac w hR hd hk K hK => yes (want_n rfl) (wp_pick _ _ _ rfl false _ ((hd 29 _ 46 rfl rfl rfl).val rfl) ((hd 32 _ 49 rfl rfl rfl).val rfl) (hK _ w (PrV.is rfl rfl) (Below.refl _ _)))
            · exact fun ac w hR hd hk K hK => yes (want_n rfl) (wp_mv _ rfl _ ((hd 33 _ 50 rfl rfl rfl).val rfl) (hK _ w (PrV.is rfl rfl) (Below.refl _ _)))
            · intro ac w hR hd hk K hK
              have e4 : ac.tmps[4]?.getD undef = (.pointer (some ⟨g4, 0, none⟩) : Value) := slot (get_keep (hk 4 (no_dst (by kernel_rfl))) rfl)
              refine yes (want_g rfl rfl ((hd 34 _ 51 rfl rfl rfl).val rfl)) ?_
              have hv := hid (hK (.pointer (some ⟨g4, 3, none⟩)) w (PrV.is rfl rfl) (Below.refl _ _))
              go_simp
              refine kq hv.out ?_
              rfl
            · intro ac w hR hd hk K hK
              have e52 : ac.tmps[52]?.getD undef = (.pointer (some ⟨g4, 3, none⟩) : Value) := slot ((hd 35 _ 52 rfl rfl rfl).val rfl)
              have x0 := stay hR y3
              refine yes (want_g rfl rfl ((hd 34 _ 51 rfl rfl rfl).val rfl)) ?_
              have hv := hid (hK (.int .i64 X3) w (PrV.is rfl rfl) (Below.refl _ _))
              go_simp
              refine kq hv.out ?_
              rfl
            · intro ac w hR hd hk K hK
              have e53 : ac.tmps[53]?.getD undef = (.int .i64 X3 : Value) := slot ((hd 36 _ 53 rfl rfl rfl).val rfl)
              have dd := e6
              refine yes (want_g rfl rfl ((hd 34 _ 51 rfl rfl rfl).val rfl)) ?_
              have hv := hid (hK (.bool false) w (PrV.is rfl rfl) (Below.refl _ _))
              go_simp
              refine kq hv.out ?_
              rfl
            · exact fun ac w hR hd hk K hK => yes (want_n rfl) (wp_pick _ _ _ rfl false _ ((hd 34 _ 51 rfl rfl rfl).val rfl) ((hd 37 _ 54 rfl rfl rfl).val rfl) (hK _ w (PrV.is rfl rfl) (Below.refl _ _)))
            · exact fun ac w hR hd hk K hK => yes (want_n rfl) (wp_mv _ rfl _ ((hd 38 _ 55 rfl rfl rfl).val rfl) (hK _ w (PrV.is rfl rfl) (Below.refl _ _)))
            · intro ac w hR hd hk K hK
              have e4 : ac.tmps[4]?.getD undef = (.pointer (some ⟨g4, 0, none⟩) : Value) := slot (get_keep (hk 4 (no_dst (by kernel_rfl))) rfl)
              refine yes (want_g rfl rfl ((hd 39 _ 56 rfl rfl rfl).val rfl)) ?_
              have hv := hid (hK (.pointer (some ⟨g4, 3, none⟩)) w (PrV.is rfl rfl) (Below.refl _ _))
              go_simp
              refine kq hv.out ?_
              rfl
            · intro ac w hR hd hk K hK
              have e57 : ac.tmps[57]?.getD undef = (.pointer (some ⟨g4, 3, none⟩) : Value) := slot ((hd 40 _ 57 rfl rfl rfl).val rfl)
              have x0 := stay hR y3
              refine yes (want_g rfl rfl ((hd 39 _ 56 rfl rfl rfl).val rfl)) ?_
              have hv := hid (hK (.int .i64 X3) w (PrV.is rfl rfl) (Below.refl _ _))
              go_simp
              refine kq hv.out ?_
              rfl
            · intro ac w hR hd hk K hK
              have e58 : ac.tmps[58]?.getD undef = (.int .i64 X3 : Value) := slot ((hd 41 _ 58 rfl rfl rfl).val rfl)
              have dd := e7
              refine yes (want_g rfl rfl ((hd 39 _ 56 rfl rfl rfl).val rfl)) ?_
              have hv := hid (hK (.bool false) w (PrV.is rfl rfl) (Below.refl _ _))
              go_simp
              refine kq hv.out ?_
              rfl
            · exact fun ac w hR hd hk K hK => yes (want_n rfl) (wp_pick _ _ _ rfl false _ ((hd 39 _ 56 rfl rfl rfl).val rfl) ((hd 42 _ 59 rfl rfl rfl).val rfl) (hK _ w (PrV.is rfl rfl) (Below.refl _ _)))
          · intro a w5 hdf hsz hkp hval hRw
            obtain ⟨f, hf⟩ : ∃ f, f = fun d => a.tmps.getD d undef := ⟨_, rfl⟩
            have h60 : f 60 = .bool false := by rw [hf]; exact (hval 43 _ 60 rfl rfl).val rfl
            have hfa := act_filled hdf hsz hkp
            rw [← hf] at hfa
            rw [hfa]
            clear hdf hsz hkp hval hfa hf
            clear a
            simp only [fillAll, List.set_cons_zero, List.set_cons_succ, h60]
            clear h60
            have b5 := bnext b2 hRw
            have hok2 := hid (hgood.out ⟨hr, hqi.out.2 ⟨hb0, by omega, by omega, by omega, by omega, by omega, by omega⟩⟩)
            subst hg1
            subst hg4
            replace hok := hid hok
            go_wp2_with fail
            go_roundw
            case rel => exact ⟨j + 1, by omega, by go_num, hok2, b5⟩
            case measure => simp [intOf]; omega
        · have e1 := hp.out.2 hr
          refine wp_region_drawn (Rel := fun w w' => Below w.heap.size w w') (Pr := PrV (pv16w1 g1 g4 qb qo qk qc j X0 X1 X2 X3 pl) [] (fun _ _ _ => True)) (by kernel_rfl) (by kernel_rfl) (drew_below _) bel_tr (PrV.mono (fun _ _ _ _ _ _ => trivial)) ?_ ?_
          · refine ⟨?_, ?_, ?_, ?_, ?_, ?_, ?_, ?_, ?_, ?_, ?_, ?_, ?_, ?_, ?_, ?_, ?_, ?_, ?_, ?_, ?_, ?_, ?_, ?_, ?_, ?_, ?_, ?_, ?_, ?_, ?_, ?_, ?_, ?_, ?_, ?_, ?_, ?_, ?_, ?_, ?_, ?_, ?_, ?_, trivial⟩
            · intro ac w hR hd hk K hK
              have e4 : ac.tmps[4]?.getD undef = (.pointer (some ⟨g4, 0, none⟩) : Value) := slot (get_keep (hk 4 (no_dst (by kernel_rfl))) rfl)
              refine yes (want_n rfl) ?_
              have hv := hid (hK (.pointer (some ⟨g4, 0, none⟩)) w (PrV.is rfl rfl) (Below.refl _ _))
              go_simp
              refine kq hv.out ?_
              rfl
            · intro ac w hR hd hk K hK
              have e17 : ac.tmps[17]?.getD undef = (.pointer (some ⟨g4, 0, none⟩) : Value) := slot ((hd 0 _ 17 rfl rfl rfl).val rfl)
              have x0 := stay hR y0
              refine yes (want_n rfl) ?_
              have hv := hid (hK (.string X0) w (PrV.is rfl rfl) (Below.refl _ _))
              go_simp
              refine kq hv.out ?_
              rfl
            · exact fun ac w hR hd hk K hK => yes (want_n rfl) (wp_callv 44 _ _ rfl _ Tryz.func44 rfl rfl _ (args1 ((hd 1 _ 18 rfl rfl rfl).val rfl)) (kN w) (by rintro e w' ⟨rfl, hb⟩; exact ⟨_, rfl, hK _ w' (PrV.is rfl rfl) (by subst hb; exact Below.refl _ _)⟩))
            · intro ac w hR hd hk K hK
              have e19 : ac.tmps[19]?.getD undef = (.bool true : Value) := slot ((hd 2 _ 19 rfl rfl rfl).val rfl)
              refine yes (want_n rfl) ?_
              have hv := hid (hK (.bool false) w (PrV.is rfl rfl) (Below.refl _ _))
              go_simp
              refine kq hv.out ?_
              rfl
            · exact fun ac w hR hd hk K hK => yes (want_n rfl) (wp_mv _ rfl _ ((hd 3 _ 20 rfl rfl rfl).val rfl) (hK _ w (PrV.is rfl rfl) (Below.refl _ _)))
            · intro ac w hR hd hk K hK
              have e1 : ac.tmps[1]?.getD undef = (.pointer (some ⟨g1, 0, none⟩) : Value) := slot (get_keep (hk 1 (no_dst (by kernel_rfl))) rfl)
              refine yes (want_g rfl rfl ((hd 4 _ 21 rfl rfl rfl).val rfl)) ?_
              have hv := hid (hK (.pointer (some ⟨g1, 3, none⟩)) w (PrV.is rfl rfl) (Below.refl _ _))
              go_simp
              refine kq hv.out ?_
              rfl
            · intro ac w hR hd hk K hK
              have e22 : ac.tmps[22]?.getD undef = (.pointer (some ⟨g1, 3, none⟩) : Value) := slot ((hd 5 _ 22 rfl rfl rfl).val rfl)
              have x0 := stay hR z3
              refine yes (want_g rfl rfl ((hd 4 _ 21 rfl rfl rfl).val rfl)) ?_
              have hv := hid (hK (.slice (some ⟨qb, qo, none⟩) qk qc) w (PrV.is rfl rfl) (Below.refl _ _))
              go_simp
              refine kq hv.out ?_
              rfl
            · exact fun ac w hR hd hk K hK => yes (want_g rfl rfl ((hd 4 _ 21 rfl rfl rfl).val rfl)) (wp_mv _ rfl _ (get_keep (hk 3 (no_dst (by kernel_rfl))) rfl) (hK _ w (PrV.is rfl rfl) (Below.refl _ _)))
            · intro ac w hR hd hk K hK
              have e23 : ac.tmps[23]?.getD undef = (.slice (some ⟨qb, qo, none⟩) qk qc : Value) := slot ((hd 6 _ 23 rfl rfl rfl).val rfl)
              have e24 : ac.tmps[24]?.getD undef = (.int .i64 (j : Int) : Value) := slot ((hd 7 _ 24 rfl rfl rfl).val rfl)
              have f1 := hjc
              have f2 := hjk
              have f3 := hc0
              have f4 := hj0
              refine yes (want_g rfl rfl ((hd 4 _ 21 rfl rfl rfl).val rfl)) ?_
              have hv := hid (hK (.slice (some ⟨qb, qo, none⟩) j qc) w (PrV.is rfl rfl) (Below.refl _ _))
              go_simp
              refine kq hv.out ?_
              rfl
            · intro ac w hR hd hk K hK
              have e4 : ac.tmps[4]?.getD undef = (.pointer (some ⟨g4, 0, none⟩) : Value) := slot (get_keep (hk 4 (no_dst (by kernel_rfl))) rfl)
              refine yes (want_g rfl rfl ((hd 4 _ 21 rfl rfl rfl).val rfl)) ?_
              have hv := hid (hK (.pointer (some ⟨g4, 0, none⟩)) w (PrV.is rfl rfl) (Below.refl _ _))
              go_simp
              refine kq hv.out ?_
              rfl
            · intro ac w hR hd hk K hK
              have e26 : ac.tmps[26]?.getD undef = (.pointer (some ⟨g4, 0, none⟩) : Value) := slot ((hd 9 _ 26 rfl rfl rfl).val rfl)
              have x0 := stay hR y0
              refine yes (want_g rfl rfl ((hd 4 _ 21 rfl rfl rfl).val rfl)) ?_
              have hv := hid (hK (.string X0) w (PrV.is rfl rfl) (Below.refl _ _))
              go_simp
              refine kq hv.out ?_
              rfl
            · exact fun ac w hR hd hk K hK => yes (want_g rfl rfl ((hd 4 _ 21 rfl rfl rfl).val rfl)) (wp_callv 62 _ _ rfl _ Tryz.func62 rfl rfl _ (args2 ((hd 8 _ 25 rfl rfl rfl).val rfl) ((hd 10 _ 27 rfl rfl rfl).val rfl)) (kQ w hR) (by rintro e w' ⟨rfl, hb⟩; exact ⟨_, rfl, hK _ w' (PrV.is rfl rfl) (by subst hb; exact Below.refl _ _)⟩))
            · intro ac w hR hd hk K hK
              have e28 : ac.tmps[28]?.getD undef = (.int .i64 pl : Value) := slot ((hd 11 _ 28 rfl rfl rfl).val rfl)
              have dd := e1
              refine yes (want_g rfl rfl ((hd 4 _ 21 rfl rfl rfl).val rfl)) ?_
              have hv := hid (hK (.bool true) w (PrV.is rfl rfl) (Below.refl _ _))
              go_simp
              refine kq hv.out ?_
              rfl
            · exact fun ac w hR hd hk K hK => yes (want_n rfl) (wp_pick _ _ _ rfl false _ ((hd 4 _ 21 rfl rfl rfl).val rfl) ((hd 12 _ 29 rfl rfl rfl).val rfl) (hK _ w (PrV.is rfl rfl) (Below.refl _ _)))
            · exact fun ac w hR hd hk K hK => yes (want_n rfl) (wp_mv _ rfl _ ((hd 13 _ 30 rfl rfl rfl).val rfl) (hK _ w (PrV.is rfl rfl) (Below.refl _ _)))
            · exact fun ac w hR hd hk K hK => nope (want_f rfl rfl ((hd 14 _ 31 rfl rfl rfl).val rfl) (by decide)) (hK _ w (PrV.is rfl rfl) (Below.refl _ _))
            · exact fun ac w hR hd hk K hK => nope (want_f rfl rfl ((hd 14 _ 31 rfl rfl rfl).val rfl) (by decide)) (hK _ w (PrV.is rfl rfl) (Below.refl _ _))
            · exact fun ac w hR hd hk K hK => nope (want_f rfl rfl ((hd 14 _ 31 rfl rfl rfl).val rfl) (by decide)) (hK _ w (PrV.is rfl rfl) (Below.refl _ _))
            · exact fun ac w hR hd hk K hK => yes (want_n rfl) (wp_pick _ _ _ rfl true _ ((hd 14 _ 31 rfl rfl rfl).val rfl) rfl (hK _ w (PrV.is rfl rfl) (Below.refl _ _)))
            · exact fun ac w hR hd hk K hK => yes (want_n rfl) (wp_mv _ rfl _ ((hd 18 _ 35 rfl rfl rfl).val rfl) (hK _ w (PrV.is rfl rfl) (Below.refl _ _)))
            · exact fun ac w hR hd hk K hK => nope (want_f rfl rfl ((hd 19 _ 36 rfl rfl rfl).val rfl) (by decide)) (hK _ w (PrV.is rfl rfl) (Below.refl _ _))
            · exact fun ac w hR hd hk K hK => nope (want_f rfl rfl ((hd 19 _ 36 rfl rfl rfl).val rfl) (by decide)) (hK _ w (PrV.is rfl rfl) (Below.refl _ _))
            · exact fun ac w hR hd hk K hK => nope (want_f rfl rfl ((hd 19 _ 36 rfl rfl rfl).val rfl) (by decide)) (hK _ w (PrV.is rfl rfl) (Below.refl _ _))
            · exact fun ac w hR hd hk K hK => yes (want_n rfl) (wp_pick _ _ _ rfl true _ ((hd 19 _ 36 rfl rfl rfl).val rfl) rfl (hK _ w (PrV.is rfl rfl) (Below.refl _ _)))
            · exact fun ac w hR hd hk K hK => yes (want_n rfl) (wp_mv _ rfl _ ((hd 23 _ 40 rfl rfl rfl).val rfl) (hK _ w (PrV.is rfl rfl) (Below.refl _ _)))
            · exact fun ac w hR hd hk K hK => nope (want_f rfl rfl ((hd 24 _ 41 rfl rfl rfl).val rfl) (by decide)) (hK _ w (PrV.is rfl rfl) (Below.refl _ _))
            · exact fun ac w hR hd hk K hK => nope (want_f rfl rfl ((hd 24 _ 41 rfl rfl rfl).val rfl) (by decide)) (hK _ w (PrV.is rfl rfl) (Below.refl _ _))
            · exact fun ac w hR hd hk K hK => nope (want_f rfl rfl ((hd 24 _ 41 rfl rfl rfl).val rfl) (by decide)) (hK _ w (PrV.is rfl rfl) (Below.refl _ _))
            · exact fun ac w hR hd hk K hK => yes (want_n rfl) (wp_pick _ _ _ rfl true _ ((hd 24 _ 41 rfl rfl rfl).val rfl) rfl (hK _ w (PrV.is rfl rfl) (Below.refl _ _)))
            · exact fun ac w hR hd hk K hK => yes (want_n rfl) (wp_mv _ rfl _ ((hd 28 _ 45 rfl rfl rfl).val rfl) (hK _ w (PrV.is rfl rfl) (Below.refl _ _)))
            · exact fun ac w hR hd hk K hK => nope (want_f rfl rfl ((hd 29 _ 46 rfl rfl rfl).val rfl) (by decide)) (hK _ w (PrV.is rfl rfl) (Below.refl _ _))
            · exact fun ac w hR hd hk K hK => nope (want_f rfl rfl ((hd 29 _ 46 rfl rfl rfl).val rfl) (by decide)) (hK _ w (PrV.is rfl rfl) (Below.refl _ _))
            · exact fun ac w hR hd hk K hK => nope (want_f rfl rfl ((hd 29 _ 46 rfl rfl rfl).val rfl) (by decide)) (hK _ w (PrV.is rfl rfl) (Below.refl _ _))
            · exact fun ac w hR hd hk K hK => yes (want_n rfl) (wp_pick _ _ _ rfl true _ ((hd 29 _ 46 rfl rfl rfl).val rfl) rfl (hK _ w (PrV.is rfl rfl) (Below.refl _ _)))
            · exact fun ac w hR hd hk K hK => yes (want_n rfl) (wp_mv _ rfl _ ((hd 33 _ 50 rfl rfl rfl).val rfl) (hK _ w (PrV.is rfl rfl) (Below.refl _ _)))
            · exact fun ac w hR hd hk K hK => nope (want_f rfl rfl ((hd 34 _ 51 rfl rfl rfl).val rfl) (by decide)) (hK _ w (PrV.is rfl rfl) (Below.refl _ _))
            · exact fun ac w hR hd hk K hK => nope (want_f rfl rfl ((hd 34 _ 51 rfl rfl rfl).val rfl) (by decide)) (hK _ w (PrV.is rfl rfl) (Below.refl _ _))
            · exact fun ac w hR hd hk K hK => nope (want_f rfl rfl ((hd 34 _ 51 rfl rfl rfl).val rfl) (by decide)) (hK _ w (PrV.is rfl rfl) (Below.refl _ _))
            · exact fun ac w hR hd hk K hK => yes (want_n rfl) (wp_pick _ _ _ rfl true _ ((hd 34 _ 51 rfl rfl rfl).val rfl) rfl (hK _ w (PrV.is rfl rfl) (Below.refl _ _)))
            · exact fun ac w hR hd hk K hK => yes (want_n rfl) (wp_mv _ rfl _ ((hd 38 _ 55 rfl rfl rfl).val rfl) (hK _ w (PrV.is rfl rfl) (Below.refl _ _)))
            · exact fun ac w hR hd hk K hK => nope (want_f rfl rfl ((hd 39 _ 56 rfl rfl rfl).val rfl) (by decide)) (hK _ w (PrV.is rfl rfl) (Below.refl _ _))
            · exact fun ac w hR hd hk K hK => nope (want_f rfl rfl ((hd 39 _ 56 rfl rfl rfl).val rfl) (by decide)) (hK _ w (PrV.is rfl rfl) (Below.refl _ _))
            · exact fun ac w hR hd hk K hK => nope (want_f rfl rfl ((hd 39 _ 56 rfl rfl rfl).val rfl) (by decide)) (hK _ w (PrV.is rfl rfl) (Below.refl _ _))
            · exact fun ac w hR hd hk K hK => yes (want_n rfl) (wp_pick _ _ _ rfl true _ ((hd 39 _ 56 rfl rfl rfl).val rfl) rfl (hK _ w (PrV.is rfl rfl) (Below.refl _ _)))
          · intro a w5 hdf hsz hkp hval hRw
            obtain ⟨f, hf⟩ : ∃ f, f = fun d => a.tmps.getD d undef := ⟨_, rfl⟩
            have h60 : f 60 = .bool true := by rw [hf]; exact (hval 43 _ 60 rfl rfl).val rfl
            have hfa := act_filled hdf hsz hkp
            rw [← hf] at hfa
            rw [hfa]
            clear hdf hsz hkp hval hfa hf
            clear a
            simp only [fillAll, List.set_cons_zero, List.set_cons_succ, h60]
            clear h60
            have B5 := bnext B2 hRw
            have hf := hid (hbad.out fun h => hr h.1)
            subst hg1
            go_wp2
            go_ret
            rw [hf.out]; exact ⟨rfl, B5⟩
    · have hje : j = qk := by omega
      subst hje
      have z2 := stay hb v2.out
      have hall := hid (qright_all (L := Q) (by rw [hQ.out]; exact hok.out))
      rw [hQ.out] at hall
      by_cases h1 : 1 ≤ j
      · have d1 : decide ((1 : Int) ≤ (j : Int)) = true := decide_eq_true (by omega)
        by_cases h8 : j ≤ 8
        · have d8 : decide ((j : Int) ≤ 8) = true := decide_eq_true (by omega)
          have hf : Hid (confB A Q = rightB A) := hid (by unfold confB; rw [hall.out, decide_eq_true ⟨h1, h8⟩, Bool.and_true])
          go_wp2_with fail
          refine (kA _ Bw).mono ?_
          rintro e w5 ⟨rfl, hb5⟩
          have B5 := bnext Bw hb5
          go_wp2
          go_ret
          rw [hf.out]
          refine ⟨ret_bool ?_, B5⟩
          cases rightB A <;> rfl
        · have d8 : decide ((j : Int) ≤ 8) = false := decide_eq_false (by omega)
          have hf : Hid (confB A Q = false) := hid (by unfold confB; rw [hall.out, decide_eq_false (fun h => h8 h.2), Bool.and_false])
          go_wp2
          go_ret
          rw [hf.out]; exact ⟨rfl, Bw⟩
      · have d1 : decide ((1 : Int) ≤ (j : Int)) = false := decide_eq_false (by omega)
        have hf : Hid (confB A Q = false) := hid (by unfold confB; rw [hall.out, decide_eq_false (fun h => h1 h.1), Bool.and_false])
        go_wp2
        go_ret
        rw [hf.out]; exact ⟨rfl, Bw⟩

end Go.Proofs.YtflapjehkgefdaaGreat

namespace Go.Proofs.YtflapjehkgefdaaGreat
open Go.RowKit
set_option linter.unusedVariables false

theorem on_path (A : List Acc) (n : ByteArray) : (fun s : Spc => hasB (pathP A s.acct) n) = onP A n := by
  funext s
  cases h : onP A n s with
  | true => exact has_is.2 (on_is.1 h)
  | false =>
    rw [has_no]
    intro h2
    rw [on_is.2 h2] at h
    cases h

def pv12 (g3 : Nat) (aa : Option Addr) (ak az b o k c j : Nat) (sx : ByteArray) (E : Int) : List Value := [.pointer (some ⟨g3, 2, none⟩), .slice aa ak az, .slice (some ⟨b, o, none⟩) k c, .int .i64 (j : Int), .pointer (some ⟨b, o + j * 17, none⟩), .pointer (some ⟨b, o + j * 17 + 3, none⟩), .pointer (some ⟨b, o + j * 17 + 4, none⟩), .string sx, undef, undef, undef, .int .i64 E, undef, .int .i64 E]

end Go.Proofs.YtflapjehkgefdaaGreat

namespace Go.Proofs.YtflapjehkgefdaaGreat
open Go.RowKit
set_option linter.unusedVariables false

/-- What a config is in memory, with what the document's functions ask besides. -/
structure CfD (w : World) (ca pa aa qa : Option Addr) (cn pn pc ak az qk qc : Nat) (Z : List Int) (M : List (Prt × List ByteArray)) (A : List Acc) (Q : List Qu) : Prop where
  c : CfR w ca pa aa qa cn pn ak az qk Z M A Q
  cb : cn ≤ 1000000
  mle : pn ≤ pc
  mc : ∀ p ∈ M, p.1.dn ≤ p.1.dc
  ms : ∀ p ∈ M, p.1.name.size ≤ 9223372036854775807
  asz : Sized A
  qle : qk ≤ qc
  qsz : ∀ x ∈ Q, x.1.size ≤ 9223372036854775807
theorem CfD.below {w w' : World} {ca pa aa qa : Option Addr} {cn pn pc ak az qk qc : Nat} {Z : List Int} {M : List (Prt × List ByteArray)} {A : List Acc} {Q : List Qu} (h : CfD w ca pa aa qa cn pn pc ak az qk qc Z M A Q) (hb : Below w.heap.size w w') : CfD w' ca pa aa qa cn pn pc ak az qk qc Z M A Q :=
  ⟨h.c.below hb, h.cb, h.mle, h.mc, h.ms, h.asz, h.qle, h.qsz⟩

theorem iat_map {w : World} {a : Option Addr} {Z : List Int} (h : IAt w a Z) : CAt w a (Z.map Nd.I) := by
  have : Z.map Nd.I = Z.flatMap ic := by
    clear h
    induction Z with
    | nil => rfl
    | cons x r ih => rw [List.map_cons, List.flatMap_cons, ih]; rfl
  rw [this]; exact h

theorem pi_ahead {L : List Prt} {j : Nat} (hj : j < L.length) : pi L (prtAt L j).name = some j ↔ pi (L.take j) (prtAt L j).name = none := by
  have ht : ∀ i, i < j → prtAt (L.take j) i = prtAt L i := fun i hi => by simp only [prtAt, List.getD_eq_getElem?_getD, List.getElem?_take, if_pos hi]
  rw [pi_is, pi_no]
  constructor
  · rintro ⟨_, _, h⟩ i hi
    have hij : i < j := by rw [List.length_take] at hi; omega
    rw [ht i hij]; exact h i hij
  · intro h
    exact ⟨hj, rfl, fun i hi => by have := h i (by rw [List.length_take]; omega); rwa [ht i hi] at this⟩

theorem PtAt.take {w : World} {a : Option Addr} {C : List Prt} (h : PtAt w a C) (k : Nat) : PtAt w a (C.take k) := flat_take pc5 5 pc5_len (by omega) h k

/-- All of so many nodes. -/
theorem up_new {Z : List Int} : Nd.upP (Nd.mkN Z) = Nd.gs (fun _ => true) (min Z.length 32) := by
  unfold Nd.upP
  rw [Nd.mkN_len]
  refine Nd.ext32 (Nd.gs_lt _ (by omega)) (Nd.gs_lt _ (by omega)) fun i _ => ?_
  rw [Nd.gs_bit, Nd.gs_bit]
  by_cases h : i < min Z.length 32
  · have hi : i < Z.length := by omega
    rw [decide_eq_true h]
    simp [Nd.upB, Nd.nodAt, Nd.mkN, hi]
  · rw [decide_eq_false h]; rfl

/-- It has a node, and none from n on: as the document says it. -/
theorem set_doc {n s : Nat} (hs : s < 4294967296) (hn : n ≤ 32) : setB n s = (!decide (s = 0) && decide (s &&& (4294967295 - Nd.gs (fun _ => true) (min n 32)) = 0)) := by
  have hg := Nd.gs_lt (fun _ => true) (k := min n 32) (by omega)
  have h1 : decide (0 < Nd.cnt s) = !decide (s = 0) := by
    by_cases h0 : s = 0
    · subst h0
      have : Nd.cnt 0 = 0 := by decide
      rw [this]; rfl
    · rw [decide_eq_false h0]
      refine decide_eq_true ?_
      rcases Nat.eq_zero_or_pos (Nd.cnt s) with h | h
      · have h2 := List.eq_nil_of_length_eq_zero h
        have h3 := Nd.ofN_lst hs
        rw [h2] at h3
        exact absurd h3.symm (by simpa [Nd.ofN] using h0)
      · exact h
  have h2 : decide (cf s (strB n) = 0) = decide (s &&& (4294967295 - Nd.gs (fun _ => true) (min n 32)) = 0) := by
    refine decide_eq_decide.2 ?_
    rw [Nd.in_all hs hg]
    constructor
    · intro h i hi hb
      rw [Nd.gs_bit]
      have : i < n := by
        rcases Nat.lt_or_ge i n with h3 | h3
        · exact h3
        · have hm : i ∈ (Nd.lst s).filter (strB n) := List.mem_filter.2 ⟨Nd.mem_lst.2 ⟨hi, hb⟩, decide_eq_true h3⟩
          rw [List.eq_nil_of_length_eq_zero h] at hm; cases hm
      rw [decide_eq_true (by omega)]; rfl
    · intro h
      unfold cf
      rw [List.length_eq_zero_iff, List.filter_eq_nil_iff]
      intro i hi
      obtain ⟨h3, h4⟩ := Nd.mem_lst.1 hi
      have := h i h3 h4
      rw [Nd.gs_bit, Bool.and_true, decide_eq_true_eq] at this
      unfold strB
      rw [decide_eq_true_eq]
      omega
  unfold setB
  rw [h1, h2]

theorem new_len {Z : List Int} (h : (Nd.newP Z).2 = 0) : Nd.newP Z = (Nd.mkN Z, 0) ∧ Z.length ≤ 32 := by
  unfold Nd.newP at *
  by_cases hr : Nd.rightB (Nd.mkN Z) = true
  · rw [if_pos hr]
    have := (Nd.right_is hr).1.2
    rw [Nd.mkN_len] at this
    exact ⟨rfl, this⟩
  · rw [if_neg hr] at h; cases h

set_option maxRecDepth 100000 in
set_option maxHeartbeats 8000000 in
theorem rprt_any (ca pa aa qa : Option Addr) (cn cc pn pc ak az qk qc : Nat) (pol : Int) (Z : List Int) (M : List (Prt × List ByteArray)) (A : List Acc) (Q : List Qu) (w : World) (hC : CfD w ca pa aa qa cn pn pc ak az qk qc Z M A Q) :
    Calls Tryz.prog 25 #[.agg #[.slice ca cn cc, .slice pa pn pc, .slice aa ak az, .slice qa qk qc, .int .u8 pol]] w fun e w' => e = .returned (.bool (rcB Z M A Q pol)) ∧ Below w.heap.size w w' := by
  obtain ⟨W1, hW1⟩ : ∃ W1, W1 = w.alloc (.cells #[.slice ca cn cc, .slice pa pn pc, .slice aa ak az, .slice qa qk qc, .int .u8 pol] 28) := ⟨_, rfl⟩
  have b1 : Below w.heap.size w W1 := by rw [hW1]; exact below_lit _ _
  have v0 : W1.cell? ⟨w.heap.size, 0, none⟩ = some (.slice ca cn cc) := by rw [hW1]; exact lit_cell _ _ _ _ _ rfl
  have v1 : W1.cell? ⟨w.heap.size, 1, none⟩ = some (.slice pa pn pc) := by rw [hW1]; exact lit_cell _ _ _ _ _ rfl
  have v2 : W1.cell? ⟨w.heap.size, 2, none⟩ = some (.slice aa ak az) := by rw [hW1]; exact lit_cell _ _ _ _ _ rfl
  have v3 : W1.cell? ⟨w.heap.size, 3, none⟩ = some (.slice qa qk qc) := by rw [hW1]; exact lit_cell _ _ _ _ _ rfl
  have v4 : W1.cell? ⟨w.heap.size, 4, none⟩ = some (.int .u8 pol) := by rw [hW1]; exact lit_cell _ _ _ _ _ rfl
  have kN := Nd.newr_any ca cn cc Z W1 hC.c.il (by have := hC.cb; omega) (iat_map (hC.c.iat.below b1))
  have kQ := fun w' (hb : Below w.heap.size w w') => rconf_any ca pa aa qa cn cc pn pc ak az qk qc pol A Q w' hC.c.al hC.c.ale hC.c.ql hC.qle hC.c.ab hC.c.qb hC.asz hC.qsz (hC.c.aat.below hb) (hC.c.qat.below hb)
  have hq := hid (show rcB Z M A Q pol = (confB A Q && decide ((Nd.newP Z).2 = 0) && partsB cn A M && polB pol) by unfold rcB; rw [hC.c.il])
  have hnl := hid (fun h => new_len (Z := Z) h)
  have hml := hid hC.c.ml
  have hzl := hid hC.c.il
  have hlt := World.block_lt_of_cell? W1 _ v0
  replace hC := hid hC
  replace hW1 := hid hW1
  generalize Nd.newP Z = D at *
  obtain ⟨D1, D2⟩ := D
  dsimp only at hq hnl
  go_enter Tryz.func25, Tryz.ntmps25
  go_wp2_with fail
  rw [← hW1.out]
  refine kN.mono ?_
  rintro e w1 ⟨ra, rc, rfl, hrc, hown, hb1⟩
  have E1 := bnext b1 hb1
  replace v0 := stay hb1 v0
  replace v1 := stay hb1 v1
  replace v2 := stay hb1 v2
  replace v3 := stay hb1 v3
  replace v4 := stay hb1 v4
  replace hlt := World.block_lt_of_cell? w1 _ v0
  have hDat := hid hown.dat
  clear hown kN b1
  dsimp only at *
  generalize hdl : D1.length = dl at *
  replace hdl := hid hdl
  by_cases h0 : ¬ D2 = 0
  · have hf := hid (show rcB Z M A Q pol = false by rw [hq.out, decide_eq_false h0]; simp)
    go_wp2_with fail
    go_wp2
    go_ret
    exact ⟨ret_bool hf.out.symm, E1⟩
  replace h0 : D2 = 0 := by omega
  obtain ⟨hD, hz32⟩ := hnl.out h0
  subst h0
  rw [decide_eq_true rfl] at hq
  go_wp2_with fail
  refine (kQ _ E1).mono ?_
  rintro e w2 ⟨rfl, hb2⟩
  have E2 := bnext E1 hb2
  replace v0 := stay hb2 v0
  replace v1 := stay hb2 v1
  replace v2 := stay hb2 v2
  replace v3 := stay hb2 v3
  replace v4 := stay hb2 v4
  replace hlt := World.block_lt_of_cell? w2 _ v0
  replace hDat := hid (hDat.out.below hb2)
  clear kQ hb2 E1
  cases hQ1 : confB A Q with
  | false =>
    have hf := hid (show rcB Z M A Q pol = false by rw [hq.out, hQ1]; rfl)
    go_wp2
    go_ret
    exact ⟨ret_bool hf.out.symm, E2⟩
  | true =>
    rw [hQ1] at hq
    replace hQ1 := hid hQ1
    by_cases p1 : pol < 1
    · have hf := hid (show rcB Z M A Q pol = false by rw [hq.out, show polB pol = false from decide_eq_false (by omega)]; simp)
      go_wp2
      go_ret
      exact ⟨ret_bool hf.out.symm, E2⟩
    by_cases p2 : 3 < pol
    · have hf := hid (show rcB Z M A Q pol = false by rw [hq.out, show polB pol = false from decide_eq_false (by omega)]; simp)
      go_wp2
      go_ret
      exact ⟨ret_bool hf.out.symm, E2⟩
    rw [show polB pol = true from decide_eq_true (by omega)] at hq
    by_cases q1 : pn < 1
    · have hf := hid (show rcB Z M A Q pol = false by rw [hq.out, show partsB cn A M = false from decide_eq_false fun h => by have := h.1; have := hml.out; omega]; rfl)
      have d1 : (pn : Int) < 1 := by omega
      go_wp2
      go_ret
      exact ⟨ret_bool hf.out.symm, E2⟩
    have d1 : ¬ (pn : Int) < 1 := by omega
    by_cases q2 : 8 < pn
    · have hf := hid (show rcB Z M A Q pol = false by rw [hq.out, show partsB cn A M = false from decide_eq_false fun h => by have := h.2.1; have := hml.out; omega]; rfl)
      have d2 : (8 : Int) < (pn : Int) := by omega
      go_wp2
      go_ret
      exact ⟨ret_bool hf.out.symm, E2⟩
    have d2 : ¬ (8 : Int) < (pn : Int) := by omega
    have f1 : decide (pol < 1) = false := decide_eq_false p1
    have f2 : decide (3 < pol) = false := decide_eq_false p2
    have f3 : decide ((pn : Int) < 1) = false := decide_eq_false d1
    have f4 : decide ((8 : Int) < (pn : Int)) = false := decide_eq_false d2
    have hfin := hid (show rcB Z M A Q pol = partsB cn A M by rw [hq.out]; simp)
    clear hq
    have kU := Nd.upr_any ra dl rc D1 w2 hdl.out (by rw [← hdl.out]; have := congrArg Prod.fst hD; dsimp only at this; rw [this, Nd.mkN_len]; omega) hDat.out
    have hup := hid (show Nd.gs (Nd.upB D1) (min D1.length 32) = Nd.gs (fun _ => true) (min cn 32) by
      have e1 := congrArg Prod.fst hD
      dsimp only at e1
      rw [e1, ← hzl.out, ← up_new]; rfl)
    rw [hup.out] at kU
    have hgl := Nd.gs_lt (fun _ => true) (k := min cn 32) (by omega)
    have hset := hid (fun z (h : z < 4294967296) => set_doc (n := cn) h (by rw [← hzl.out]; exact hz32))
    generalize Nd.gs (fun _ => true) (min cn 32) = U at *
    go_wp2_with fail
    refine kU.mono ?_
    rintro e w3 ⟨rfl, hb3⟩
    have E3 := bnext E2 hb3
    replace v0 := stay hb3 v0
    replace v1 := stay hb3 v1
    replace v2 := stay hb3 v2
    replace v3 := stay hb3 v3
    replace v4 := stay hb3 v4
    replace hlt := World.block_lt_of_cell? w3 _ v0
    clear kU hb3 E2 hDat
    obtain ⟨b, o, e⟩ := hC.out.c.mat.place (by rw [List.length_map, hml.out]; omega)
    subst e
    go_wp2_with fail
    go_loopw [6] (fun i wr => ∃ j : Nat, j ≤ pn ∧ i = .int .i64 (j : Int) ∧ Hid (PrtTo cn A M j) ∧ Below w3.heap.size w3 wr) (fun i _ => pn - (intOf i).toNat)
    case atStart => exact ⟨0, Nat.zero_le _, rfl, hid (fun i hi => by omega), Below.refl _ _⟩
    case round =>
      obtain ⟨j, hj, rfl, hok, hb⟩ := hrel
      have Ew := bnext E3 hb
      have y0 := stay hb v0
      have y1 := stay hb v1
      have y2 := stay hb v2
      have ly := World.block_lt_of_cell? wr _ y1
      by_cases hlj : j < pn
      · have hjM : j < M.length := by rw [hml.out]; exact hlj
        have hjP : j < (M.map (·.1)).length := by rw [List.length_map]; exact hjM
        obtain ⟨x0, x1, x2, x3, x4⟩ := (hC.out.c.mat.below Ew).one hjP
        have hpah := pi_ahead hjP
        rw [mAt_fst hjM] at x0 x1 x2 x3 x4 hpah
        have hmem := mAt_mem hjM
        obtain ⟨z, hz, hzz⟩ := hC.out.c.set _ hmem
        obtain ⟨t1, t2, t3⟩ := hC.out.c.min _ hmem
        have t4 := hC.out.mc _ hmem
        have t5 := hC.out.ms _ hmem
        have hsz := hset.out z hzz
        have hpB := hid (show partB cn A (mAt M j).1 (mAt M j).2 = (nameB (mAt M j).1.name && (!decide (z = 0) && decide (z &&& (4294967295 - U) = 0)) && decide (0 ≤ (mAt M j).1.prio) && decide ((mAt M j).1.prio ≤ 1000) && decide (1 ≤ (mAt M j).1.most) && decide ((mAt M j).1.most ≤ 1048576) && userB A (mAt M j).2) by unfold partB; rw [hz, Int.toNat_natCast, hsz])
        have kF := fun w' (hbw : Below w.heap.size w w') => rpfind_any (some ⟨b, o, none⟩) j pc ((M.map (·.1)).take j) (mAt M j).1.name w' (by rw [List.length_take, List.length_map, hml.out]; omega) (by omega) ((hC.out.c.mat.below hbw).take j)
        have kM := fun w' => rname_any (mAt M j).1.name t5 w'
        have kW := fun w' => Nd.withinr_any z U hzz hgl w'
        have kL := fun w' (hbw : Below w.heap.size w w') => listed_any aa ak az A (mAt M j).1.da (mAt M j).1.dn (mAt M j).1.dc (mAt M j).2 w' hC.out.c.al hC.out.c.ab (hC.out.c.aat.below hbw) t1 t3 t4 (t2.below hbw)
        rw [hz] at x1
        have hstep : ∀ (h : pi ((M.map (·.1)).take j) (mAt M j).1.name = none ∧ partB cn A (mAt M j).1 (mAt M j).2 = true), Hid (PrtTo cn A M (j + 1)) := fun h => hid fun i hi => by
          rcases Nat.lt_or_ge i j with h1 | h1
          · exact hok.out i h1
          · obtain rfl : i = j := by omega
            exact ⟨hpah.2 h.1, h.2⟩
        have hbad : ¬ (pi ((M.map (·.1)).take j) (mAt M j).1.name = none ∧ partB cn A (mAt M j).1 (mAt M j).2 = true) → Hid (rcB Z M A Q pol = false) := fun h => hid (by
          rw [hfin.out]; exact decide_eq_false fun h1 => h ⟨hpah.1 (h1.2.2 j hjM).1, (h1.2.2 j hjM).2⟩)
        clear t1 t2 t3 t4 t5 hz hmem hpah hsz
        rw [hpB.out] at hstep hbad
        clear hpB
        replace hok := hid hok
        generalize userB A (mAt M j).2 = Q7 at *
        generalize mAt M j = X at *
        obtain ⟨⟨X0, X1, X2, X3, X4, X5, X6⟩, XT⟩ := X
        dsimp only at *
        generalize nameB X0 = Q1 at *
        obtain ⟨W2, hW2⟩ : ∃ W2, W2 = wr.alloc (.cells #[.string X0, .int .u32 (z : Int), .int .i64 X2, .int .i64 X3, .slice X4 X5 X6] 67) := ⟨_, rfl⟩
        have b2 : Below wr.heap.size wr W2 := by rw [hW2]; exact below_lit _ _
        have u0 : W2.cell? ⟨wr.heap.size, 0, none⟩ = some (.string X0) := by rw [hW2]; exact lit_cell _ _ _ _ _ rfl
        have u1 : W2.cell? ⟨wr.heap.size, 1, none⟩ = some (.int .u32 (z : Int)) := by rw [hW2]; exact lit_cell _ _ _ _ _ rfl
        have u2 : W2.cell? ⟨wr.heap.size, 2, none⟩ = some (.int .i64 X2) := by rw [hW2]; exact lit_cell _ _ _ _ _ rfl
        have u3 : W2.cell? ⟨wr.heap.size, 3, none⟩ = some (.int .i64 X3) := by rw [hW2]; exact lit_cell _ _ _ _ _ rfl
        have u4 : W2.cell? ⟨wr.heap.size, 4, none⟩ = some (.slice X4 X5 X6) := by rw [hW2]; exact lit_cell _ _ _ _ _ rfl
        have E4 := bnext Ew b2
        have kF2 : ∀ q, Calls Tryz.prog 26 #[.slice (some ⟨b, o, none⟩) j pc, .string X0] (W2.drewN q) fun e w' => e = FRet (pi ((M.map (·.1)).take j) X0) ∧ w' = W2.drewN q := fun q => kF _ (below_drewN E4 q)
        clear kF
        have yw := y1
        replace y0 := stay b2 y0
        replace y1 := stay b2 y1
        replace y2 := stay b2 y2
        have lz := World.block_lt_of_cell? W2 _ u0
        have lyz := World.block_lt_of_cell? W2 _ y1
        obtain ⟨vi, hvi⟩ := FRet_form (pi ((M.map (·.1)).take j) X0)
        rw [hvi] at kF2
        replace hvi := hid hvi
        generalize hPI : pi ((M.map (·.1)).take j) X0 = PI at *
        replace hPI := hid hPI
        have hj0 : (0 : Int) ≤ (j : Int) := by omega
        have hmle := hC.out.mle
        have hjc : (j : Int) ≤ (pc : Int) := by omega
        have hjk : (j : Int) < (pn : Int) := by omega
        replace hW2 := hid hW2
        have B2 := bnext hb b2
        go_wp2_with fail
        rw [← hW2.out]
        clear x0 x1 x2 x3 x4
        cases PI with
        | some i0 =>
          have hs := hbad (fun h => by cases h.1)
          clear hstep hbad
          rw [show (some i0).isSome = true from rfl] at kF2
          go_quiet (first | (go_at_call 26; exact Calls.quiet_of_same (kF2 _)))
          go_wp2
          go_ret
          exact ⟨ret_bool hs.out.symm, below_drewN E4 _⟩
        | none =>
          rw [show (none : Option Nat).isSome = false from rfl] at kF2
          go_quiet (first | (go_at_call 26; exact Calls.quiet_of_same (kF2 _)))
          have dq := below_drewN (Below.refl W2.heap.size W2) nq
          replace E4 := bnext E4 dq
          replace B2 := bnext B2 dq
          replace u0 := stay dq u0
          replace u1 := stay dq u1
          replace u2 := stay dq u2
          replace u3 := stay dq u3
          replace u4 := stay dq u4
          replace y0 := stay dq y0
          replace y1 := stay dq y1
          replace y2 := stay dq y2
          clear kF2 hW2 b2 lz lyz
          generalize W2.drewN nq = W4 at *
          have lz := World.block_lt_of_cell? W4 _ u0
          have lyz := World.block_lt_of_cell? W4 _ y1
          cases Q1 with
          | false =>
            have hs := hbad (fun h => by simp at h)
            clear hstep hbad
            go_wp2_with fail
            refine (kM _).mono ?_
            rintro e w5 ⟨rfl, rfl⟩
            go_wp2
            go_ret
            exact ⟨ret_bool hs.out.symm, E4⟩
          | true =>
            by_cases z0 : z = 0
            · have hs := hbad (fun h => by simp [z0] at h)
              clear hstep hbad
              subst z0
              go_wp2_with fail
              refine (kM _).mono ?_
              rintro e w5 ⟨rfl, rfl⟩
              go_wp2
              go_ret
              exact ⟨ret_bool hs.out.symm, E4⟩
            have z0' : ((z : Int) == 0) = false := beq_eq_false_iff_ne.2 (by omega)
            go_wp2_with fail
            refine (kM _).mono ?_
            rintro e w5 ⟨rfl, rfl⟩
            by_cases zu : ¬ z &&& (4294967295 - U) = 0
            · have hs := hbad (fun h => by simp [zu] at h)
              rw [decide_eq_false zu] at kW
              clear hstep hbad
              go_wp2_with fail
              refine (kW _).mono ?_
              rintro e w6 ⟨rfl, rfl⟩
              go_wp2
              go_ret
              exact ⟨ret_bool hs.out.symm, E4⟩
            replace zu : z &&& (4294967295 - U) = 0 := by omega
            rw [decide_eq_true zu] at kW
            rw [decide_eq_true zu, decide_eq_false z0] at hstep hbad
            replace zu := hid zu
            go_wp2_with fail
            refine (kW _).mono ?_
            rintro e w6 ⟨rfl, rfl⟩
            by_cases r1 : X2 < 0
            · have r1' : ¬ 0 ≤ X2 := by omega
              have hs := hbad (fun h => by simp [r1'] at h)
              clear hstep hbad
              go_wp2
              go_ret
              exact ⟨ret_bool hs.out.symm, E4⟩
            by_cases r2 : 1000 < X2
            · have r2' : ¬ X2 ≤ 1000 := by omega
              have hs := hbad (fun h => by simp [r2'] at h)
              clear hstep hbad
              go_wp2
              go_ret
              exact ⟨ret_bool hs.out.symm, E4⟩
            by_cases r3 : X3 < 1
            · have r3' : ¬ 1 ≤ X3 := by omega
              have hs := hbad (fun h => by simp [r3'] at h)
              clear hstep hbad
              go_wp2
              go_ret
              exact ⟨ret_bool hs.out.symm, E4⟩
            by_cases r4 : 1048576 < X3
            · have r4' : ¬ X3 ≤ 1048576 := by omega
              have hs := hbad (fun h => by simp [r4'] at h)
              clear hstep hbad
              go_wp2
              go_ret
              exact ⟨ret_bool hs.out.symm, E4⟩
            have r1' : 0 ≤ X2 := by omega
            have r2' : X2 ≤ 1000 := by omega
            have r3' : 1 ≤ X3 := by omega
            have r4' : X3 ≤ 1048576 := by omega
            cases Q7 with
            | false =>
              have hs := hbad (fun h => by simp at h)
              clear hstep hbad r1' r2' r3' r4'
              go_wp2_with fail
              refine (kL _ E4).mono ?_
              rintro e w7 ⟨rfl, hb7⟩
              go_wp2
              go_ret
              exact ⟨ret_bool hs.out.symm, bnext E4 hb7⟩
            | true =>
              have g1 : decide (X2 < 0) = false := decide_eq_false r1
              have g2 : decide (1000 < X2) = false := decide_eq_false r2
              have g3 : decide (X3 < 1) = false := decide_eq_false r3
              have g4 : decide (1048576 < X3) = false := decide_eq_false r4
              have hs := hstep ⟨trivial, by simp [r1', r2', r3', r4']⟩
              clear hstep hbad r1' r2' r3' r4'
              go_wp2_with fail
              refine (kL _ E4).mono ?_
              rintro e w7 ⟨rfl, hb7⟩
              go_wp2_with fail
              go_roundw
              case rel => exact ⟨j + 1, by omega, by go_num, hs, bnext B2 hb7⟩
              case measure => simp [intOf]; omega
      · have hje : j = pn := by omega
        subst hje
        have hf := hid (show rcB Z M A Q pol = true by rw [hfin.out]; exact decide_eq_true ⟨by rw [hml.out]; omega, by rw [hml.out]; omega, by rw [hml.out]; exact hok.out⟩)
        go_wp2
        go_ret
        exact ⟨ret_bool hf.out.symm, Ew⟩

end Go.Proofs.YtflapjehkgefdaaGreat
