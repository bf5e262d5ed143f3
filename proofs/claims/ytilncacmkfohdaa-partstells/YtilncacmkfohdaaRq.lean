/- The document's own: the place of a quality, whether a config is right. -/
import Derived.Test.YtilncacmkfohdaaRef4
import Derived.Test.YtilncacmkfohdaaUse
namespace Go.Proofs.Ytilncacmkfohdaa
open Go.RowKit
set_option linter.unusedVariables false

set_option maxRecDepth 100000 in
set_option maxHeartbeats 400000 in
theorem rqual_any (a : Option Addr) (k c : Nat) (L : List Qu) (n : ByteArray) (w : World) (hn : L.length = k) (hl : k ≤ 4611686018427387904) (hat : QAt w a L) :
    Calls Try.prog 63 #[.slice a k c, .string n] w fun e w' => e = .returned (.int .i64 (plV (qi L n))) ∧ w' = w := by
  replace hn := hid hn
  replace hat := hid hat
  go_enter Try.func63, Try.ntmps63
  go_wp2_with fail
  go_loopw [5] (fun i wr => ∃ j : Nat, j ≤ k ∧ i = .int .i64 (j : Int) ∧ Hid (NoneToQ L n j) ∧ wr = w) (fun i _ => k - (intOf i).toNat)
  case atStart => exact ⟨0, Nat.zero_le _, rfl, hid (fun i hi => by omega), rfl⟩
  case round =>
    obtain ⟨j, hj, rfl, hok, rfl⟩ := hrel
    by_cases hlt : j < k
    · have hjL : j < L.length := by rw [hn.out]; exact hlt
      obtain ⟨b, o, e⟩ := hat.out.place (by omega)
      subst e
      obtain ⟨x0, x1, x2, x3⟩ := hat.out.one hjL
      by_cases hB : (quAt L j).1 = n
      · have hf := hid ((qi_is L n j).2 ⟨hjL, hB, hok.out⟩)
        have he := text_eq hB
        replace hB := hid hB
        replace hok := hid hok
        generalize quAt L j = X at *
        obtain ⟨X0, X1, X2, X3⟩ := X
        dsimp only at *
        go_wp2
        go_ret
        rw [hf.out]
        exact ⟨rfl, rfl⟩
      · have hok2 : Hid (NoneToQ L n (j + 1)) := hid fun i hi => by
          rcases Nat.lt_or_ge i j with h | h
          · exact hok.out i h
          · obtain rfl : i = j := by omega
            exact hB
        have he := text_ne hB
        replace hB := hid hB
        replace hok := hid hok
        generalize quAt L j = X at *
        obtain ⟨X0, X1, X2, X3⟩ := X
        dsimp only at *
        go_wp2_with fail
        go_roundw
        case rel => exact ⟨j + 1, by omega, by go_num, hok2, trivial⟩
        case measure => simp [intOf]; omega
    · have hje : j = k := by omega
      subst hje
      have hf := hid ((qi_no L n).2 (by rw [hn.out]; exact hok.out))
      go_wp2
      go_ret
      rw [hf.out]
      exact ⟨rfl, rfl⟩

/-- A quality whose name does not stand ahead of it. -/
theorem qi_ahead {L : List Qu} {j : Nat} (hj : j < L.length) : qi L (quAt L j).1 = some j ↔ qi (L.take j) (quAt L j).1 = none := by
  rw [qi_is, qi_no]
  constructor
  · rintro ⟨_, _, h⟩ i hi
    rw [List.length_take] at hi
    rw [quAt_take (by omega)]
    exact h i (by omega)
  · intro h
    refine ⟨hj, rfl, fun i hi => ?_⟩
    have := h i (by rw [List.length_take]; omega)
    rwa [quAt_take hi] at this

theorem qual_is {x : ByteArray} {p l m : Int} : qualB (x, p, l, m) = true ↔ nameB x = true ∧ 0 ≤ p ∧ p ≤ 1000 ∧ -1 ≤ l ∧ l ≤ 1073741824 ∧ -1 ≤ m ∧ m ≤ 1073741824 := by
  unfold qualB limB
  simp only [Bool.and_eq_true, decide_eq_true_eq]
  constructor
  · rintro ⟨⟨⟨⟨a, b⟩, c⟩, d, e⟩, f, g⟩; exact ⟨a, b, c, d, e, f, g⟩
  · rintro ⟨a, b, c, d, e, f, g⟩; exact ⟨⟨⟨⟨a, b⟩, c⟩, d, e⟩, f, g⟩

theorem qright_all {L : List Qu} (h : QFitTo L L.length) : qrightB L = decide (1 ≤ L.length ∧ L.length ≤ 8) := by
  by_cases h1 : 1 ≤ L.length ∧ L.length ≤ 8
  · rw [decide_eq_true h1]; exact qright_good h1.1 h1.2 h
  · rw [decide_eq_false h1]; exact qright_no h1

def pv16w0 (g1 g4 qb qo qk qc j : Nat) (X0 : ByteArray) (X1 X2 X3 pl : Int) : List Value := [.pointer (some ⟨g4, 0, none⟩), .string X0, .bool false, .bool true, .bool true, undef, undef, undef, undef, undef, undef, undef, undef, .bool true, .bool true, undef, undef, undef, .bool true, .bool true, undef, undef, undef, .bool true, .bool true, undef, undef, undef, .bool true, .bool true, undef, undef, undef, .bool true, .bool true, undef, undef, undef, .bool true, .bool true, undef, undef, undef, .bool true]

def pv16w1 (g1 g4 qb qo qk qc j : Nat) (X0 : ByteArray) (X1 X2 X3 pl : Int) : List Value := [.pointer (some ⟨g4, 0, none⟩), .string X0, .bool true, .bool false, .bool false, .pointer (some ⟨g1, 3, none⟩), .slice (some ⟨qb, qo, none⟩) qk qc, .int .i64 (j : Int), .slice (some ⟨qb, qo, none⟩) j qc, .pointer (some ⟨g4, 0, none⟩), .string X0, .int .i64 pl, .bool true, .bool true, .bool true, undef, undef, undef, .bool true, .bool true, undef, undef, undef, .bool true, .bool true, undef, undef, undef, .bool true, .bool true, undef, undef, undef, .bool true, .bool true, undef, undef, undef, .bool true, .bool true, undef, undef, undef, .bool true]

def pv16w2 (g1 g4 qb qo qk qc j : Nat) (X0 : ByteArray) (X1 X2 X3 pl : Int) : List Value := [.pointer (some ⟨g4, 0, none⟩), .string X0, .bool true, .bool false, .bool false, .pointer (some ⟨g1, 3, none⟩), .slice (some ⟨qb, qo, none⟩) qk qc, .int .i64 (j : Int), .slice (some ⟨qb, qo, none⟩) j qc, .pointer (some ⟨g4, 0, none⟩), .string X0, .int .i64 pl, .bool false, .bool false, .bool false, .pointer (some ⟨g4, 1, none⟩), .int .i64 X1, .bool true, .bool true, .bool true, undef, undef, undef, .bool true, .bool true, undef, undef, undef, .bool true, .bool true, undef, undef, undef, .bool true, .bool true, undef, undef, undef, .bool true, .bool true, undef, undef, undef, .bool true]

def pv16w3 (g1 g4 qb qo qk qc j : Nat) (X0 : ByteArray) (X1 X2 X3 pl : Int) : List Value := [.pointer (some ⟨g4, 0, none⟩), .string X0, .bool true, .bool false, .bool false, .pointer (some ⟨g1, 3, none⟩), .slice (some ⟨qb, qo, none⟩) qk qc, .int .i64 (j : Int), .slice (some ⟨qb, qo, none⟩) j qc, .pointer (some ⟨g4, 0, none⟩), .string X0, .int .i64 pl, .bool false, .bool false, .bool false, .pointer (some ⟨g4, 1, none⟩), .int .i64 X1, .bool false, .bool false, .bool false, .pointer (some ⟨g4, 1, none⟩), .int .i64 X1, .bool true, .bool true, .bool true, undef, undef, undef, .bool true, .bool true, undef, undef, undef, .bool true, .bool true, undef, undef, undef, .bool true, .bool true, undef, undef, undef, .bool true]

def pv16w4 (g1 g4 qb qo qk qc j : Nat) (X0 : ByteArray) (X1 X2 X3 pl : Int) : List Value := [.pointer (some ⟨g4, 0, none⟩), .string X0, .bool true, .bool false, .bool false, .pointer (some ⟨g1, 3, none⟩), .slice (some ⟨qb, qo, none⟩) qk qc, .int .i64 (j : Int), .slice (some ⟨qb, qo, none⟩) j qc, .pointer (some ⟨g4, 0, none⟩), .string X0, .int .i64 pl, .bool false, .bool false, .bool false, .pointer (some ⟨g4, 1, none⟩), .int .i64 X1, .bool false, .bool false, .bool false, .pointer (some ⟨g4, 1, none⟩), .int .i64 X1, .bool false, .bool false, .bool false, .pointer (some ⟨g4, 2, none⟩), .int .i64 X2, .bool true, .bool true, .bool true, undef, undef, undef, .bool true, .bool true, undef, undef, undef, .bool true, .bool true, undef, undef, undef, .bool true]

def pv16w5 (g1 g4 qb qo qk qc j : Nat) (X0 : ByteArray) (X1 X2 X3 pl : Int) : List Value := [.pointer (some ⟨g4, 0, none⟩), .string X0, .bool true, .bool false, .bool false, .pointer (some ⟨g1, 3, none⟩), .slice (some ⟨qb, qo, none⟩) qk qc, .int .i64 (j : Int), .slice (some ⟨qb, qo, none⟩) j qc, .pointer (some ⟨g4, 0, none⟩), .string X0, .int .i64 pl, .bool false, .bool false, .bool false, .pointer (some ⟨g4, 1, none⟩), .int .i64 X1, .bool false, .bool false, .bool false, .pointer (some ⟨g4, 1, none⟩), .int .i64 X1, .bool false, .bool false, .bool false, .pointer (some ⟨g4, 2, none⟩), .int .i64 X2, .bool false, .bool false, .bool false, .pointer (some ⟨g4, 2, none⟩), .int .i64 X2, .bool true, .bool true, .bool true, undef, undef, undef, .bool true, .bool true, undef, undef, undef, .bool true]

def pv16w6 (g1 g4 qb qo qk qc j : Nat) (X0 : ByteArray) (X1 X2 X3 pl : Int) : List Value := [.pointer (some ⟨g4, 0, none⟩), .string X0, .bool true, .bool false, .bool false, .pointer (some ⟨g1, 3, none⟩), .slice (some ⟨qb, qo, none⟩) qk qc, .int .i64 (j : Int), .slice (some ⟨qb, qo, none⟩) j qc, .pointer (some ⟨g4, 0, none⟩), .string X0, .int .i64 pl, .bool false, .bool false, .bool false, .pointer (some ⟨g4, 1, none⟩), .int .i64 X1, .bool false, .bool false, .bool false, .pointer (some ⟨g4, 1, none⟩), .int .i64 X1, .bool false, .bool false, .bool false, .pointer (some ⟨g4, 2, none⟩), .int .i64 X2, .bool false, .bool false, .bool false, .pointer (some ⟨g4, 2, none⟩), .int .i64 X2, .bool false, .bool false, .bool false, .pointer (some ⟨g4, 3, none⟩), .int .i64 X3, .bool true, .bool true, .bool true, undef, undef, undef, .bool true]

def pv16w7 (g1 g4 qb qo qk qc j : Nat) (X0 : ByteArray) (X1 X2 X3 pl : Int) : List Value := [.pointer (some ⟨g4, 0, none⟩), .string X0, .bool true, .bool false, .bool false, .pointer (some ⟨g1, 3, none⟩), .slice (some ⟨qb, qo, none⟩) qk qc, .int .i64 (j : Int), .slice (some ⟨qb, qo, none⟩) j qc, .pointer (some ⟨g4, 0, none⟩), .string X0, .int .i64 pl, .bool false, .bool false, .bool false, .pointer (some ⟨g4, 1, none⟩), .int .i64 X1, .bool false, .bool false, .bool false, .pointer (some ⟨g4, 1, none⟩), .int .i64 X1, .bool false, .bool false, .bool false, .pointer (some ⟨g4, 2, none⟩), .int .i64 X2, .bool false, .bool false, .bool false, .pointer (some ⟨g4, 2, none⟩), .int .i64 X2, .bool false, .bool false, .bool false, .pointer (some ⟨g4, 3, none⟩), .int .i64 X3, .bool false, .bool false, .bool false, .pointer (some ⟨g4, 3, none⟩), .int .i64 X3, .bool true, .bool true]

def pv16w8 (g1 g4 qb qo qk qc j : Nat) (X0 : ByteArray) (X1 X2 X3 pl : Int) : List Value := [.pointer (some ⟨g4, 0, none⟩), .string X0, .bool true, .bool false, .bool false, .pointer (some ⟨g1, 3, none⟩), .slice (some ⟨qb, qo, none⟩) qk qc, .int .i64 (j : Int), .slice (some ⟨qb, qo, none⟩) j qc, .pointer (some ⟨g4, 0, none⟩), .string X0, .int .i64 pl, .bool false, .bool false, .bool false, .pointer (some ⟨g4, 1, none⟩), .int .i64 X1, .bool false, .bool false, .bool false, .pointer (some ⟨g4, 1, none⟩), .int .i64 X1, .bool false, .bool false, .bool false, .pointer (some ⟨g4, 2, none⟩), .int .i64 X2, .bool false, .bool false, .bool false, .pointer (some ⟨g4, 2, none⟩), .int .i64 X2, .bool false, .bool false, .bool false, .pointer (some ⟨g4, 3, none⟩), .int .i64 X3, .bool false, .bool false, .bool false, .pointer (some ⟨g4, 3, none⟩), .int .i64 X3, .bool false, .bool false]


set_option maxRecDepth 100000 in
set_option maxHeartbeats 8000000 in
theorem rconf_any (ca pa aa qa : Option Addr) (cn cc pn pc ak az qk qc : Nat) (pol : Int) (A : List Acc) (Q : List Qu) (w : World) (hA : A.length = ak) (hac : ak ≤ az) (hQ : Q.length = qk) (hqc : qk ≤ qc) (hal : ak ≤ 4611686018427387904) (hql : qk ≤ 4611686018427387904) (hsA : Sized A) (hsQ : ∀ x ∈ Q, x.1.size ≤ 9223372036854775807) (hatA : AAt w aa A) (hatQ : QAt w qa Q) :
    Calls Try.prog 32 #[.agg #[.slice ca cn cc, .slice pa pn pc, .slice aa ak az, .slice qa qk qc, .int .u8 pol]] w fun e w' => e = .returned (.bool (confB A Q)) ∧ Below w.heap.size w w' := by
  obtain ⟨W0, hW0⟩ : ∃ W0, W0 = w.alloc (.cells #[.slice ca cn cc, .slice pa pn pc, .slice aa ak az, .slice qa qk qc, .int .u8 pol] 28) := ⟨_, rfl⟩
  have bl := below_lit w (.cells #[.slice ca cn cc, .slice pa pn pc, .slice aa ak az, .slice qa qk qc, .int .u8 pol] 28)
  have v2 := lit_cell w 28 #[.slice ca cn cc, .slice pa pn pc, .slice aa ak az, .slice qa qk qc, .int .u8 pol] 2 (.slice aa ak az) rfl
  have v3 := lit_cell w 28 #[.slice ca cn cc, .slice pa pn pc, .slice aa ak az, .slice qa qk qc, .int .u8 pol] 3 (.slice qa qk qc) rfl
  rw [← hW0] at bl v2 v3
  have kA := fun wx (hb : Below w.heap.size w wx) => rright_any aa ak az A wx hA hal hac hsA (hatA.below hb)
  replace hA := hid hA
  replace hQ := hid hQ
  replace hatA := hid hatA
  replace hatQ := hid hatQ
  replace hsA := hid hsA
  replace hsQ := hid hsQ
  replace v2 := hid v2
  replace v3 := hid v3
  go_enter Try.func32, Try.ntmps32
  go_wp2_with fail
  rw [← hW0]
  replace hW0 := hid hW0
  go_loopw [3] (fun i wr => ∃ j : Nat, j ≤ qk ∧ i = .int .i64 (j : Int) ∧ Hid (QFitTo Q j) ∧ Below W0.heap.size W0 wr) (fun i _ => qk - (intOf i).toNat)
  case atStart => exact ⟨0, Nat.zero_le _, rfl, hid (fun i hi => by omega), Below.refl _ _⟩
  case round =>
    obtain ⟨j, hj, rfl, hok, hb⟩ := hrel
    have Bw := bnext bl hb
    have z3 := stay hb v3.out
    by_cases hlt : j < qk
    · have hjQ : j < Q.length := by rw [hQ.out]; exact hlt
      obtain ⟨qb, qo, e⟩ := hatQ.out.place (by omega)
      subst e
      obtain ⟨x0, x1, x2, x3⟩ := (hatQ.out.below Bw).one hjQ
      have hc0 : ¬ qc = 0 := by omega
      have hjc : (j : Int) ≤ (qc : Int) := by omega
      have hjk : (j : Int) ≤ (qk : Int) := by omega
      have hj0 : (0 : Int) ≤ (j : Int) := by omega
      have hxs := hsQ.out (quAt Q j) (by rw [← quAt_eq hjQ]; exact List.getElem_mem hjQ)
      have kN := fun w => rname_any (quAt Q j).1 hxs w
      have bl2 := below_lit wr (.cells #[.string (quAt Q j).1, .int .i64 (quAt Q j).2.1, .int .i64 (quAt Q j).2.2.1, .int .i64 (quAt Q j).2.2.2] 89)
      have kQ := fun wx (h : Below (wr.alloc (.cells #[.string (quAt Q j).1, .int .i64 (quAt Q j).2.1, .int .i64 (quAt Q j).2.2.1, .int .i64 (quAt Q j).2.2.2] 89)).heap.size (wr.alloc (.cells #[.string (quAt Q j).1, .int .i64 (quAt Q j).2.1, .int .i64 (quAt Q j).2.2.1, .int .i64 (quAt Q j).2.2.2] 89)) wx) => rqual_any (some ⟨qb, qo, none⟩) j qc (Q.take j) (quAt Q j).1 wx (by rw [List.length_take]; omega) (by omega) ((hatQ.out.below (bnext Bw (bnext bl2 h))).take j)
      have hbad := hid (fun (h : ¬ (qi Q (quAt Q j).1 = some j ∧ qualB (quAt Q j) = true)) => show confB A Q = false by unfold confB; rw [qright_bad hjQ h]; simp)
      have hgood := hid (fun (h : qi Q (quAt Q j).1 = some j ∧ qualB (quAt Q j) = true) => show QFitTo Q (j + 1) from fun i hi => by
        rcases Nat.lt_or_ge i j with h3 | h3
        · exact hok.out i h3
        · obtain rfl : i = j := by omega
          exact h)
      rw [qi_ahead hjQ] at hbad hgood
      have hpl : ∀ r : Option Nat, (r = none → decide (0 ≤ plV r) = false) ∧ (¬ r = none → decide (0 ≤ plV r) = true) := fun r => by
        cases r with
        | none => exact ⟨fun _ => rfl, fun h => absurd rfl h⟩
        | some i => exact ⟨fun h => (by cases h), fun _ => decide_eq_true (by simp only [plV]; omega)⟩
      have hp := hpl (qi (Q.take j) (quAt Q j).1)
      clear hpl
      generalize qi (Q.take j) (quAt Q j).1 = r at *
      generalize quAt Q j = X at *
      obtain ⟨X0, X1, X2, X3⟩ := X
      dsimp only at *
      have hqi := hid (qual_is (x := X0) (p := X1) (l := X2) (m := X3))
      generalize plV r = pl at *
      have y0 := lit_cell wr 89 #[.string X0, .int .i64 X1, .int .i64 X2, .int .i64 X3] 0 _ rfl
      have y1 := lit_cell wr 89 #[.string X0, .int .i64 X1, .int .i64 X2, .int .i64 X3] 1 _ rfl
      have y2 := lit_cell wr 89 #[.string X0, .int .i64 X1, .int .i64 X2, .int .i64 X3] 2 _ rfl
      have y3 := lit_cell wr 89 #[.string X0, .int .i64 X1, .int .i64 X2, .int .i64 X3] 3 _ rfl
      have z4 := stay bl2 z3
      obtain ⟨W1, hW1⟩ : ∃ W1, W1 = wr.alloc (.cells #[.string X0, .int .i64 X1, .int .i64 X2, .int .i64 X3] 89) := ⟨_, rfl⟩
      rw [← hW1] at bl2 kQ y0 y1 y2 y3 z4
      have b2 := bnext hb bl2
      have B2 := bnext bl b2
      clear hxs
      replace kN := hid kN
      replace kQ := hid kQ
      replace y0 := hid y0
      replace y1 := hid y1
      replace y2 := hid y2
      replace y3 := hid y3
      replace z4 := hid z4
      replace hp := hid hp
      go_wp2_with fail
      rw [← hW1]
      replace hW1 := hid hW1
      replace kN := kN.out
      replace kQ := kQ.out
      replace y0 := y0.out
      replace y1 := y1.out
      replace y2 := y2.out
      replace y3 := y3.out
      clear z3
      have z3 := z4.out
      clear x0 x1 x2 x3
      generalize hg1 : w.heap.size = g1 at z3 ⊢
      generalize hg4 : wr.heap.size = g4 at y0 y1 y2 y3 ⊢
      cases hN : nameB X0 with
      | false =>
        rw [hN] at kN
        have hb0 := hN
        refine wp_region_drawn (Rel := fun w w' => Below w.heap.size w w') (Pr := PrV (pv16w0 g1 g4 qb qo qk qc j X0 X1 X2 X3 pl) [] (fun _ _ _ => True)) (by kernel_rfl) (by kernel_rfl) (drew_below _) bel_tr (PrV.mono (fun _ _ _ _ _ _ => trivial)) ?_ ?_
        · refine ⟨?_, ?_, ?_, ?_, ?_, ?_, ?_, ?_, ?_, ?_, ?_, ?_, ?_, ?_, ?_, ?_, ?_, ?_, ?_, ?_, ?_, ?_, ?_, ?_, ?_, ?_, ?_, ?_, ?_, ?_, ?_, ?_, ?_, ?_, ?_, ?_, ?_, ?_, ?_, ?_, ?_, ?_, ?_, ?_, trivial⟩
          · intro ac w hR hd hk K hK
            have e4 : ac.tmps[4]?.getD undef = (.pointer (some ⟨g4, 0, none⟩) : Value) := slot (get_keep (hk 4 (no_dst (by kernel_rfl))) rfl)
            refine yes (want_n rfl) ?_
            have hv := hid (hK (.pointer (some ⟨g4, 0, none⟩)) w (PrV.is rfl rfl) (Below.refl _ _))
            go_simp
            refine kq hv.out ?_
            rfl
          · intro ac w hR hd hk K hK
            have e17 : ac.tmps[17]?.getD undef = (.pointer (some ⟨g4, 0, none⟩) : Value) := slot ((hd 0 _ 17 rfl rfl rfl).val rfl)
            have x0 := stay hR y0
            refine yes (want_n rfl) ?_
            have hv := hid (hK (.string X0) w (PrV.is rfl rfl) (Below.refl _ _))
            go_simp
            refine kq hv.out ?_
            rfl
          · exact fun ac w hR hd hk K hK => yes (want_n rfl) (wp_callv 34 _ _ rfl _ Try.func34 rfl rfl _ (args1 ((hd 1 _ 18 rfl rfl rfl).val rfl)) (kN w) (by rintro e w' ⟨rfl, hb⟩; exact ⟨_, rfl, hK _ w' (PrV.is rfl rfl) (by subst hb; exact Below.refl _ _)⟩))
          · intro ac w hR hd hk K hK
            have e19 : ac.tmps[19]?.getD undef = (.bool false : Value) := slot ((hd 2 _ 19 rfl rfl rfl).val rfl)
            refine yes (want_n rfl) ?_
            have hv := hid (hK (.bool true) w (PrV.is rfl rfl) (Below.refl _ _))
            go_simp
            refine kq hv.out ?_
            rfl
          · exact fun ac w hR hd hk K hK => yes (want_n rfl) (wp_mv _ rfl _ ((hd 3 _ 20 rfl rfl rfl).val rfl) (hK _ w (PrV.is rfl rfl) (Below.refl _ _)))
          · exact fun ac w hR hd hk K hK => nope (want_f rfl rfl ((hd 4 _ 21 rfl rfl rfl).val rfl) (by decide)) (hK _ w (PrV.is rfl rfl) (Below.refl _ _))
          · exact fun ac w hR hd hk K hK => nope (want_f rfl rfl ((hd 4 _ 21 rfl rfl rfl).val rfl) (by decide)) (hK _ w (PrV.is rfl rfl) (Below.refl _ _))
          · exact fun ac w hR hd hk K hK => nope (want_f rfl rfl ((hd 4 _ 21 rfl rfl rfl).val rfl) (by decide)) (hK _ w (PrV.is rfl rfl) (Below.refl _ _))
          · exact fun ac w hR hd hk K hK => nope (want_f rfl rfl ((hd 4 _ 21 rfl rfl rfl).val rfl) (by decide)) (hK _ w (PrV.is rfl rfl) (Below.refl _ _))
          · exact fun ac w hR hd hk K hK => nope (want_f rfl rfl ((hd 4 _ 21 rfl rfl rfl).val rfl) (by decide)) (hK _ w (PrV.is rfl rfl) (Below.refl _ _))
          · exact fun ac w hR hd hk K hK => nope (want_f rfl rfl ((hd 4 _ 21 rfl rfl rfl).val rfl) (by decide)) (hK _ w (PrV.is rfl rfl) (Below.refl _ _))
          · exact fun ac w hR hd hk K hK => nope (want_f rfl rfl ((hd 4 _ 21 rfl rfl rfl).val rfl) (by decide)) (hK _ w (PrV.is rfl rfl) (Below.refl _ _))
          · exact fun ac w hR hd hk K hK => nope (want_f rfl rfl ((hd 4 _ 21 rfl rfl rfl).val rfl) (by decide)) (hK _ w (PrV.is rfl rfl) (Below.refl _ _))
          · exact fun ac w hR hd hk K hK => yes (want_n rfl) (wp_pick _ _ _ rfl true _ ((hd 4 _ 21 rfl rfl rfl).val rfl) rfl (hK _ w (PrV.is rfl rfl) (Below.refl _ _)))
          · exact fun ac w hR hd hk K hK => yes (want_n rfl) (wp_mv _ rfl _ ((hd 13 _ 30 rfl rfl rfl).val rfl) (hK _ w (PrV.is rfl rfl) (Below.refl _ _)))
          · exact fun ac w hR hd hk K hK => nope (want_f rfl rfl ((hd 14 _ 31 rfl rfl rfl).val rfl) (by decide)) (hK _ w (PrV.is rfl rfl) (Below.refl _ _))
          · exact fun ac w hR hd hk K hK => nope (want_f rfl rfl ((hd 14 _ 31 rfl rfl rfl).val rfl) (by decide)) (hK _ w (PrV.is rfl rfl) (Below.refl _ _))
          · exact fun ac w hR hd hk K hK => nope (want_f rfl rfl ((hd 14 _ 31 rfl rfl rfl).val rfl) (by decide)) (hK _ w (PrV.is rfl rfl) (Below.refl _ _))
          · exact fun ac w hR hd hk K hK => yes (want_n rfl) (wp_pick _ _ _ rfl true _ ((hd 14 _ 31 rfl rfl rfl).val rfl) rfl (hK _ w (PrV.is rfl rfl) (Below.refl _ _)))
          · exact fun ac w hR hd hk K hK => yes (want_n rfl) (wp_mv _ rfl _ ((hd 18 _ 35 rfl rfl rfl).val rfl) (hK _ w (PrV.is rfl rfl) (Below.refl _ _)))
          · exact fun ac w hR hd hk K hK => nope (want_f rfl rfl ((hd 19 _ 36 rfl rfl rfl).val rfl) (by decide)) (hK _ w (PrV.is rfl rfl) (Below.refl _ _))
          · exact fun ac w hR hd hk K hK => nope (want_f rfl rfl ((hd 19 _ 36 rfl rfl rfl).val rfl) (by decide)) (hK _ w (PrV.is rfl rfl) (Below.refl _ _))
          · exact fun ac w hR hd hk K hK => nope (want_f rfl rfl ((hd 19 _ 36 rfl rfl rfl).val rfl) (by decide)) (hK _ w (PrV.is rfl rfl) (Below.refl _ _))
          · exact fun ac w hR hd hk K hK => yes (want_n rfl) (wp_pick _ _ _ rfl true _ ((hd 19 _ 36 rfl rfl rfl).val rfl) rfl (hK _ w (PrV.is rfl rfl) (Below.refl _ _)))
          · exact fun ac w hR hd hk K hK => yes (want_n rfl) (wp_mv _ rfl _ ((hd 23 _ 40 rfl rfl rfl).val rfl) (hK _ w (PrV.is rfl rfl) (Below.refl _ _)))
          · exact fun ac w hR hd hk K hK => nope (want_f rfl rfl ((hd 24 _ 41 rfl rfl rfl).val rfl) (by decide)) (hK _ w (PrV.is rfl rfl) (Below.refl _ _))
          · exact fun ac w hR hd hk K hK => nope (want_f rfl rfl ((hd 24 _ 41 rfl rfl rfl).val rfl) (by decide)) (hK _ w (PrV.is rfl rfl) (Below.refl _ _))
          · exact fun ac w hR hd hk K hK => nope (want_f rfl rfl ((hd 24 _ 41 rfl rfl rfl).val rfl) (by decide)) (hK _ w (PrV.is rfl rfl) (Below.refl _ _))
          · exact fun ac w hR hd hk K hK => yes (want_n rfl) (wp_pick _ _ _ rfl true _ ((hd 24 _ 41 rfl rfl rfl).val rfl) rfl (hK _ w (PrV.is rfl rfl) (Below.refl _ _)))
          · exact fun ac w hR hd hk K hK => yes (want_n rfl) (wp_mv _ rfl _ ((hd 28 _ 45 rfl rfl rfl).val rfl) (hK _ w (PrV.is rfl rfl) (Below.refl _ _)))
          · exact fun ac w hR hd hk K hK => nope (want_f rfl rfl ((hd 29 _ 46 rfl rfl rfl).val rfl) (by decide)) (hK _ w (PrV.is rfl rfl) (Below.refl _ _))
          · exact fun ac w hR hd hk K hK => nope (want_f rfl rfl ((hd 29 _ 46 rfl rfl rfl).val rfl) (by decide)) (hK _ w (PrV.is rfl rfl) (Below.refl _ _))
          · exact fun ac w hR hd hk K hK => nope (want_f rfl rfl ((hd 29 _ 46 rfl rfl rfl).val rfl) (by decide)) (hK _ w (PrV.is rfl rfl) (Below.refl _ _))
          · exact fun ac w hR hd hk K hK => yes (want_n rfl) (wp_pick _ _ _ rfl true _ ((hd 29 _ 46 rfl rfl rfl).val rfl) rfl (hK _ w (PrV.is rfl rfl) (Below.refl _ _)))
          · exact fun ac w hR hd hk K hK => yes (want_n rfl) (wp_mv _ rfl _ ((hd 33 _ 50 rfl rfl rfl).val rfl) (hK _ w (PrV.is rfl rfl) (Below.refl _ _)))
          · exact fun ac w hR hd hk K hK => nope (want_f rfl rfl ((hd 34 _ 51 rfl rfl rfl).val rfl) (by decide)) (hK _ w (PrV.is rfl rfl) (Below.refl _ _))
          · exact fun ac w hR hd hk K hK => nope (want_f rfl rfl ((hd 34 _ 51 rfl rfl rfl).val rfl) (by decide)) (hK _ w (PrV.is rfl rfl) (Below.refl _ _))
          · exact fun ac w hR hd hk K hK => nope (want_f rfl rfl ((hd 34 _ 51 rfl rfl rfl).val rfl) (by decide)) (hK _ w (PrV.is rfl rfl) (Below.refl _ _))
          · exact fun ac w hR hd hk K hK => yes (want_n rfl) (wp_pick _ _ _ rfl true _ ((hd 34 _ 51 rfl rfl rfl).val rfl) rfl (hK _ w (PrV.is rfl rfl) (Below.refl _ _)))
          · exact fun ac w hR hd hk K hK => yes (want_n rfl) (wp_mv _ rfl _ ((hd 38 _ 55 rfl rfl rfl).val rfl) (hK _ w (PrV.is rfl rfl) (Below.refl _ _)))
          · exact fun ac w hR hd hk K hK => nope (want_f rfl rfl ((hd 39 _ 56 rfl rfl rfl).val rfl) (by decide)) (hK _ w (PrV.is rfl rfl) (Below.refl _ _))
          · exact fun ac w hR hd hk K hK => nope (want_f rfl rfl ((hd 39 _ 56 rfl rfl rfl).val rfl) (by decide)) (hK _ w (PrV.is rfl rfl) (Below.refl _ _))
          · exact fun ac w hR hd hk K hK => nope (want_f rfl rfl ((hd 39 _ 56 rfl rfl rfl).val rfl) (by decide)) (hK _ w (PrV.is rfl rfl) (Below.refl _ _))
          · exact fun ac w hR hd hk K hK => yes (want_n rfl) (wp_pick _ _ _ rfl true _ ((hd 39 _ 56 rfl rfl rfl).val rfl) rfl (hK _ w (PrV.is rfl rfl) (Below.refl _ _)))
        · intro a w5 hdf hsz hkp hval hRw
          obtain ⟨f, hf⟩ : ∃ f, f = fun d => a.tmps.getD d undef := ⟨_, rfl⟩
          have h60 : f 60 = .bool true := by rw [hf]; exact (hval 43 _ 60 rfl rfl).val rfl
          have hfa := act_filled hdf hsz hkp
          rw [← hf] at hfa
          rw [hfa]
          clear hdf hsz hkp hval hfa hf
          clear a
          simp only [fillAll, List.set_cons_zero, List.set_cons_succ, h60]
          clear h60
          have B5 := bnext B2 hRw
          have hf := hid (hbad.out fun h => by have := (hqi.out.1 h.2).1; rw [hb0] at this; cases this)
          subst hg1
          go_wp2
          go_ret
          rw [hf.out]; exact ⟨rfl, B5⟩
      | true =>
        rw [hN] at kN
        have hb0 := hN
        by_cases hr : r = none
        · have e1 := hp.out.1 hr
          by_cases q2 : X1 < 0
          · have e2 : decide (X1 < 0) = true := by simpa using q2
            refine wp_region_drawn (Rel := fun w w' => Below w.heap.size w w') (Pr := PrV (pv16w2 g1 g4 qb qo qk qc j X0 X1 X2 X3 pl) [] (fun _ _ _ => True)) (by kernel_rfl) (by kernel_rfl) (drew_below _) bel_tr (PrV.mono (fun _ _ _ _ _ _ => trivial)) ?_ ?_
            · refine ⟨?_, ?_, ?_, ?_, ?_, ?_, ?_, ?_, ?_, ?_, ?_, ?_, ?_, ?_, ?_, ?_, ?_, ?_, ?_, ?_, ?_, ?_, ?_, ?_, ?_, ?_, ?_, ?_, ?_, ?_, ?_, ?_, ?_, ?_, ?_, ?_, ?_, ?_, ?_, ?_, ?_, ?_, ?_, ?_, trivial⟩
              · intro ac w hR hd hk K hK
                have e4 : ac.tmps[4]?.getD undef = (.pointer (some ⟨g4, 0, none⟩) : Value) := slot (get_keep (hk 4 (no_dst (by kernel_rfl))) rfl)
                refine yes (want_n rfl) ?_
                have hv := hid (hK (.pointer (some ⟨g4, 0, none⟩)) w (PrV.is rfl rfl) (Below.refl _ _))
                go_simp
                refine kq hv.out ?_
                rfl
              · intro ac w hR hd hk K hK
                have e17 : ac.tmps[17]?.getD undef = (.pointer (some ⟨g4, 0, none⟩) : Value) := slot ((hd 0 _ 17 rfl rfl rfl).val rfl)
                have x0 := stay hR y0
                refine yes (want_n rfl) ?_
                have hv := hid (hK (.string X0) w (PrV.is rfl rfl) (Below.refl _ _))
                go_simp
                refine kq hv.out ?_
                rfl
              · exact fun ac w hR hd hk K hK => yes (want_n rfl) (wp_callv 34 _ _ rfl _ Try.func34 rfl rfl _ (args1 ((hd 1 _ 18 rfl rfl rfl).val rfl)) (kN w) (by rintro e w' ⟨rfl, hb⟩; exact ⟨_, rfl, hK _ w' (PrV.is rfl rfl) (by subst hb; exact Below.refl _ _)⟩))
              · intro ac w hR hd hk K hK
                have e19 : ac.tmps[19]?.getD undef = (.bool true : Value) := slot ((hd 2 _ 19 rfl rfl rfl).val rfl)
                refine yes (want_n rfl) ?_
                have hv := hid (hK (.bool false) w (PrV.is rfl rfl) (Below.refl _ _))
                go_simp
                refine kq hv.out ?_
                rfl
              · exact fun ac w hR hd hk K hK => yes (want_n rfl) (wp_mv _ rfl _ ((hd 3 _ 20 rfl rfl rfl).val rfl) (hK _ w (PrV.is rfl rfl) (Below.refl _ _)))
              · intro ac w hR hd hk K hK
                have e1 : ac.tmps[1]?.getD undef = (.pointer (some ⟨g1, 0, none⟩) : Value) := slot (get_keep (hk 1 (no_dst (by kernel_rfl))) rfl)
                refine yes (want_g rfl rfl ((hd 4 _ 21 rfl rfl rfl).val rfl)) ?_
                have hv := hid (hK (.pointer (some ⟨g1, 3, none⟩)) w (PrV.is rfl rfl) (Below.refl _ _))
                go_simp
                refine kq hv.out ?_
                rfl
              · intro ac w hR hd hk K hK
                have e22 : ac.tmps[22]?.getD undef = (.pointer (some ⟨g1, 3, none⟩) : Value) := slot ((hd 5 _ 22 rfl rfl rfl).val rfl)
                have x0 := stay hR z3
                refine yes (want_g rfl rfl ((hd 4 _ 21 rfl rfl rfl).val rfl)) ?_
                have hv := hid (hK (.slice (some ⟨qb, qo, none⟩) qk qc) w (PrV.is rfl rfl) (Below.refl _ _))
                go_simp
                refine kq hv.out ?_
                rfl
              · exact fun ac w hR hd hk K hK => yes (want_g rfl rfl ((hd 4 _ 21 rfl rfl rfl).val rfl)) (wp_mv _ rfl _ (get_keep (hk 3 (no_dst (by kernel_rfl))) rfl) (hK _ w (PrV.is rfl rfl) (Below.refl _ _)))
              · intro ac w hR hd hk K hK
                have e23 : ac.tmps[23]?.getD undef = (.slice (some ⟨qb, qo, none⟩) qk qc : Value) := slot ((hd 6 _ 23 rfl rfl rfl).val rfl)
                have e24 : ac.tmps[24]?.getD undef = (.int .i64 (j : Int) : Value) := slot ((hd 7 _ 24 rfl rfl rfl).val rfl)
                have f1 := hjc
                have f2 := hjk
                have f3 := hc0
                have f4 := hj0
                refine yes (want_g rfl rfl ((hd 4 _ 21 rfl rfl rfl).val rfl)) ?_
                have hv := hid (hK (.slice (some ⟨qb, qo, none⟩) j qc) w (PrV.is rfl rfl) (Below.refl _ _))
                go_simp
                refine kq hv.out ?_
                rfl
              · intro ac w hR hd hk K hK
                have e4 : ac.tmps[4]?.getD undef = (.pointer (some ⟨g4, 0, none⟩) : Value) := slot (get_keep (hk 4 (no_dst (by kernel_rfl))) rfl)
                refine yes (want_g rfl rfl ((hd 4 _ 21 rfl rfl rfl).val rfl)) ?_
                have hv := hid (hK (.pointer (some ⟨g4, 0, none⟩)) w (PrV.is rfl rfl) (Below.refl _ _))
                go_simp
                refine kq hv.out ?_
                rfl
              · intro ac w hR hd hk K hK
                have e26 : ac.tmps[26]?.getD undef = (.pointer (some ⟨g4, 0, none⟩) : Value) := slot ((hd 9 _ 26 rfl rfl rfl).val rfl)
                have x0 := stay hR y0
                refine yes (want_g rfl rfl ((hd 4 _ 21 rfl rfl rfl).val rfl)) ?_
                have hv := hid (hK (.string X0) w (PrV.is rfl rfl) (Below.refl _ _))
                go_simp
                refine kq hv.out ?_
                rfl
              · exact fun ac w hR hd hk K hK => yes (want_g rfl rfl ((hd 4 _ 21 rfl rfl rfl).val rfl)) (wp_callv 63 _ _ rfl _ Try.func63 rfl rfl _ (args2 ((hd 8 _ 25 rfl rfl rfl).val rfl) ((hd 10 _ 27 rfl rfl rfl).val rfl)) (kQ w hR) (by rintro e w' ⟨rfl, hb⟩; exact ⟨_, rfl, hK _ w' (PrV.is rfl rfl) (by subst hb; exact Below.refl _ _)⟩))
              · intro ac w hR hd hk K hK
                have e28 : ac.tmps[28]?.getD undef = (.int .i64 pl : Value) := slot ((hd 11 _ 28 rfl rfl rfl).val rfl)
                have dd := e1
                refine yes (want_g rfl rfl ((hd 4 _ 21 rfl rfl rfl).val rfl)) ?_
                have hv := hid (hK (.bool false) w (PrV.is rfl rfl) (Below.refl _ _))
                go_simp
                refine kq hv.out ?_
                rfl
              · exact fun ac w hR hd hk K hK => yes (want_n rfl) (wp_pick _ _ _ rfl false _ ((hd 4 _ 21 rfl rfl rfl).val rfl) ((hd 12 _ 29 rfl rfl rfl).val rfl) (hK _ w (PrV.is rfl rfl) (Below.refl _ _)))
              · exact fun ac w hR hd hk K hK => yes (want_n rfl) (wp_mv _ rfl _ ((hd 13 _ 30 rfl rfl rfl).val rfl) (hK _ w (PrV.is rfl rfl) (Below.refl _ _)))
              · intro ac w hR hd hk K hK
                have e4 : ac.tmps[4]?.getD undef = (.pointer (some ⟨g4, 0, none⟩) : Value) := slot (get_keep (hk 4 (no_dst (by kernel_rfl))) rfl)
                refine yes (want_g rfl rfl ((hd 14 _ 31 rfl rfl rfl).val rfl)) ?_
                have hv := hid (hK (.pointer (some ⟨g4, 1, none⟩)) w (PrV.is rfl rfl) (Below.refl _ _))
                go_simp
                refine kq hv.out ?_
                rfl
              · intro ac w hR hd hk K hK
                have e32 : ac.tmps[32]?.getD undef = (.pointer (some ⟨g4, 1, none⟩) : Value) := slot ((hd 15 _ 32 rfl rfl rfl).val rfl)
                have x0 := stay hR y1
                refine yes (want_g rfl rfl ((hd 14 _ 31 rfl rfl rfl).val rfl)) ?_
                have hv := hid (hK (.int .i64 X1) w (PrV.is rfl rfl) (Below.refl _ _))
                go_simp
                refine kq hv.out ?_
                rfl
              · intro ac w hR hd hk K hK
                have e33 : ac.tmps[33]?.getD undef = (.int .i64 X1 : Value) := slot ((hd 16 _ 33 rfl rfl rfl).val rfl)
                have dd := e2
                refine yes (want_g rfl rfl ((hd 14 _ 31 rfl rfl rfl).val rfl)) ?_
                have hv := hid (hK (.bool true) w (PrV.is rfl rfl) (Below.refl _ _))
                go_simp
                refine kq hv.out ?_
                rfl
              · exact fun ac w hR hd hk K hK => yes (want_n rfl) (wp_pick _ _ _ rfl false _ ((hd 14 _ 31 rfl rfl rfl).val rfl) ((hd 17 _ 34 rfl rfl rfl).val rfl) (hK _ w (PrV.is rfl rfl) (Below.refl _ _)))
              · exact fun ac w hR hd hk K hK => yes (want_n rfl) (wp_mv _ rfl _ ((hd 18 _ 35 rfl rfl rfl).val rfl) (hK _ w (PrV.is rfl rfl) (Below.refl _ _)))
              · exact fun ac w hR hd hk K hK => nope (want_f rfl rfl ((hd 19 _ 36 rfl rfl rfl).val rfl) (by decide)) (hK _ w (PrV.is rfl rfl) (Below.refl _ _))
              · exact fun ac w hR hd hk K hK => nope (want_f rfl rfl ((hd 19 _ 36 rfl rfl rfl).val rfl) (by decide)) (hK _ w (PrV.is rfl rfl) (Below.refl _ _))
              · exact fun ac w hR hd hk K hK => nope (want_f rfl rfl ((hd 19 _ 36 rfl rfl rfl).val rfl) (by decide)) (hK _ w (PrV.is rfl rfl) (Below.refl _ _))
              · exact fun ac w hR hd hk K hK => yes (want_n rfl) (wp_pick _ _ _ rfl true _ ((hd 19 _ 36 rfl rfl rfl).val rfl) rfl (hK _ w (PrV.is rfl rfl) (Below.refl _ _)))
              · exact fun ac w hR hd hk K hK => yes (want_n rfl) (wp_mv _ rfl _ ((hd 23 _ 40 rfl rfl rfl).val rfl) (hK _ w (PrV.is rfl rfl) (Below.refl _ _)))
              · exact fun ac w hR hd hk K hK => nope (want_f rfl rfl ((hd 24 _ 41 rfl rfl rfl).val rfl) (by decide)) (hK _ w (PrV.is rfl rfl) (Below.refl _ _))
              · exact fun ac w hR hd hk K hK => nope (want_f rfl rfl ((hd 24 _ 41 rfl rfl rfl).val rfl) (by decide)) (hK _ w (PrV.is rfl rfl) (Below.refl _ _))
              · exact fun ac w hR hd hk K hK => nope (want_f rfl rfl ((hd 24 _ 41 rfl rfl rfl).val rfl) (by decide)) (hK _ w (PrV.is rfl rfl) (Below.refl _ _))
              · exact fun ac w hR hd hk K hK => yes (want_n rfl) (wp_pick _ _ _ rfl true _ ((hd 24 _ 41 rfl rfl rfl).val rfl) rfl (hK _ w (PrV.is rfl rfl) (Below.refl _ _)))
              · exact fun ac w hR hd hk K hK => yes (want_n rfl) (wp_mv _ rfl _ ((hd 28 _ 45 rfl rfl rfl).val rfl) (hK _ w (PrV.is rfl rfl) (Below.refl _ _)))
              · exact fun ac w hR hd hk K hK => nope (want_f rfl rfl ((hd 29 _ 46 rfl rfl rfl).val rfl) (by decide)) (hK _ w (PrV.is rfl rfl) (Below.refl _ _))
              · exact fun ac w hR hd hk K hK => nope (want_f rfl rfl ((hd 29 _ 46 rfl rfl rfl).val rfl) (by decide)) (hK _ w (PrV.is rfl rfl) (Below.refl _ _))
              · exact fun ac w hR hd hk K hK => nope (want_f rfl rfl ((hd 29 _ 46 rfl rfl rfl).val rfl) (by decide)) (hK _ w (PrV.is rfl rfl) (Below.refl _ _))
              · exact fun ac w hR hd hk K hK => yes (want_n rfl) (wp_pick _ _ _ rfl true _ ((hd 29 _ 46 rfl rfl rfl).val rfl) rfl (hK _ w (PrV.is rfl rfl) (Below.refl _ _)))
              · exact fun ac w hR hd hk K hK => yes (want_n rfl) (wp_mv _ rfl _ ((hd 33 _ 50 rfl rfl rfl).val rfl) (hK _ w (PrV.is rfl rfl) (Below.refl _ _)))
              · exact fun ac w hR hd hk K hK => nope (want_f rfl rfl ((hd 34 _ 51 rfl rfl rfl).val rfl) (by decide)) (hK _ w (PrV.is rfl rfl) (Below.refl _ _))
              · exact fun ac w hR hd hk K hK => nope (want_f rfl rfl ((hd 34 _ 51 rfl rfl rfl).val rfl) (by decide)) (hK _ w (PrV.is rfl rfl) (Below.refl _ _))
              · exact fun ac w hR hd hk K hK => nope (want_f rfl rfl ((hd 34 _ 51 rfl rfl rfl).val rfl) (by decide)) (hK _ w (PrV.is rfl rfl) (Below.refl _ _))
              · exact fun ac w hR hd hk K hK => yes (want_n rfl) (wp_pick _ _ _ rfl true _ ((hd 34 _ 51 rfl rfl rfl).val rfl) rfl (hK _ w (PrV.is rfl rfl) (Below.refl _ _)))
              · exact fun ac w hR hd hk K hK => yes (want_n rfl) (wp_mv _ rfl _ ((hd 38 _ 55 rfl rfl rfl).val rfl) (hK _ w (PrV.is rfl rfl) (Below.refl _ _)))
              · exact fun ac w hR hd hk K hK => nope (want_f rfl rfl ((hd 39 _ 56 rfl rfl rfl).val rfl) (by decide)) (hK _ w (PrV.is rfl rfl) (Below.refl _ _))
              · exact fun ac w hR hd hk K hK => nope (want_f rfl rfl ((hd 39 _ 56 rfl rfl rfl).val rfl) (by decide)) (hK _ w (PrV.is rfl rfl) (Below.refl _ _))
              · exact fun ac w hR hd hk K hK => nope (want_f rfl rfl ((hd 39 _ 56 rfl rfl rfl).val rfl) (by decide)) (hK _ w (PrV.is rfl rfl) (Below.refl _ _))
              · exact fun ac w hR hd hk K hK => yes (want_n rfl) (wp_pick _ _ _ rfl true _ ((hd 39 _ 56 rfl rfl rfl).val rfl) rfl (hK _ w (PrV.is rfl rfl) (Below.refl _ _)))
            · intro a w5 hdf hsz hkp hval hRw
              obtain ⟨f, hf⟩ : ∃ f, f = fun d => a.tmps.getD d undef := ⟨_, rfl⟩
              have h60 : f 60 = .bool true := by rw [hf]; exact (hval 43 _ 60 rfl rfl).val rfl
              have hfa := act_filled hdf hsz hkp
              rw [← hf] at hfa
              rw [hfa]
              clear hdf hsz hkp hval hfa hf
              clear a
              simp only [fillAll, List.set_cons_zero, List.set_cons_succ, h60]
              clear h60
              have B5 := bnext B2 hRw
              have hf := hid (hbad.out fun h => by have hh := hqi.out.1 h.2; omega)
              subst hg1
              go_wp2
              go_ret
              rw [hf.out]; exact ⟨rfl, B5⟩
          have e2 : decide (X1 < 0) = false := by simpa using q2
          by_cases q3 : 1000 < X1
          · have e3 : decide (1000 < X1) = true := by simpa using q3
            refine wp_region_drawn (Rel := fun w w' => Below w.heap.size w w') (Pr := PrV (pv16w3 g1 g4 qb qo qk qc j X0 X1 X2 X3 pl) [] (fun _ _ _ => True)) (by kernel_rfl) (by kernel_rfl) (drew_below _) bel_tr (PrV.mono (fun _ _ _ _ _ _ => trivial)) ?_ ?_
            · refine ⟨?_, ?_, ?_, ?_, ?_, ?_, ?_, ?_, ?_, ?_, ?_, ?_, ?_, ?_, ?_, ?_, ?_, ?_, ?_, ?_, ?_, ?_, ?_, ?_, ?_, ?_, ?_, ?_, ?_, ?_, ?_, ?_, ?_, ?_, ?_, ?_, ?_, ?_, ?_, ?_, ?_, ?_, ?_, ?_, trivial⟩
              · intro ac w hR hd hk K hK
                have e4 : ac.tmps[4]?.getD undef = (.pointer (some ⟨g4, 0, none⟩) : Value) := slot (get_keep (hk 4 (no_dst (by kernel_rfl))) rfl)
                refine yes (want_n rfl) ?_
                have hv := hid (hK (.pointer (some ⟨g4, 0, none⟩)) w (PrV.is rfl rfl) (Below.refl _ _))
                go_simp
                refine kq hv.out ?_
                rfl
              · intro ac w hR hd hk K hK
                have e17 : ac.tmps[17]?.getD undef = (.pointer (some ⟨g4, 0, none⟩) : Value) := slot ((hd 0 _ 17 rfl rfl rfl).val rfl)
                have x0 := stay hR y0
                refine yes (want_n rfl) ?_
                have hv := hid (hK (.string X0) w (PrV.is rfl rfl) (Below.refl _ _))
                go_simp
                refine kq hv.out ?_
                rfl
              · exact fun ac w hR hd hk K hK => yes (want_n rfl) (wp_callv 34 _ _ rfl _ Try.func34 rfl rfl _ (args1 ((hd 1 _ 18 rfl rfl rfl).val rfl)) (kN w) (by rintro e w' ⟨rfl, hb⟩; exact ⟨_, rfl, hK _ w' (PrV.is rfl rfl) (by subst hb; exact Below.refl _ _)⟩))
              · intro ac w hR hd hk K hK
                have e19 : ac.tmps[19]?.getD undef = (.bool true : Value) := slot ((hd 2 _ 19 rfl rfl rfl).val rfl)
                refine yes (want_n rfl) ?_
                have hv := hid (hK (.bool false) w (PrV.is rfl rfl) (Below.refl _ _))
                go_simp
                refine kq hv.out ?_
                rfl
              · exact fun ac w hR hd hk K hK => yes (want_n rfl) (wp_mv _ rfl _ ((hd 3 _ 20 rfl rfl rfl).val rfl) (hK _ w (PrV.is rfl rfl) (Below.refl _ _)))
              · intro ac w hR hd hk K hK
                have e1 : ac.tmps[1]?.getD undef = (.pointer (some ⟨g1, 0, none⟩) : Value) := slot (get_keep (hk 1 (no_dst (by kernel_rfl))) rfl)
                refine yes (want_g rfl rfl ((hd 4 _ 21 rfl rfl rfl).val rfl)) ?_
                have hv := hid (hK (.pointer (some ⟨g1, 3, none⟩)) w (PrV.is rfl rfl) (Below.refl _ _))
                go_simp
                refine kq hv.out ?_
                rfl
              · intro ac w hR hd hk K hK
                have e22 : ac.tmps[22]?.getD undef = (.pointer (some ⟨g1, 3, none⟩) : Value) := slot ((hd 5 _ 22 rfl rfl rfl).val rfl)
                have x0 := stay hR z3
                refine yes (want_g rfl rfl ((hd 4 _ 21 rfl rfl rfl).val rfl)) ?_
                have hv := hid (hK (.slice (some ⟨qb, qo, none⟩) qk qc) w (PrV.is rfl rfl) (Below.refl _ _))
                go_simp
                refine kq hv.out ?_
                rfl
              · exact fun ac w hR hd hk K hK => yes (want_g rfl rfl ((hd 4 _ 21 rfl rfl rfl).val rfl)) (wp_mv _ rfl _ (get_keep (hk 3 (no_dst (by kernel_rfl))) rfl) (hK _ w (PrV.is rfl rfl) (Below.refl _ _)))
              · intro ac w hR hd hk K hK
                have e23 : ac.tmps[23]?.getD undef = (.slice (some ⟨qb, qo, none⟩) qk qc : Value) := slot ((hd 6 _ 23 rfl rfl rfl).val rfl)
                have e24 : ac.tmps[24]?.getD undef = (.int .i64 (j : Int) : Value) := slot ((hd 7 _ 24 rfl rfl rfl).val rfl)
                have f1 := hjc
                have f2 := hjk
                have f3 := hc0
                have f4 := hj0
                refine yes (want_g rfl rfl ((hd 4 _ 21 rfl rfl rfl).val rfl)) ?_
                have hv := hid (hK (.slice (some ⟨qb, qo, none⟩) j qc) w (PrV.is rfl rfl) (Below.refl _ _))
                go_simp
                refine kq hv.out ?_
                rfl
              · intro ac w hR hd hk K hK
                have e4 : ac.tmps[4]?.getD undef = (.pointer (some ⟨g4, 0, none⟩) : Value) := slot (get_keep (hk 4 (no_dst (by kernel_rfl))) rfl)
                refine yes (want_g rfl rfl ((hd 4 _ 21 rfl rfl rfl).val rfl)) ?_
                have hv := hid (hK (.pointer (some ⟨g4, 0, none⟩)) w (PrV.is rfl rfl) (Below.refl _ _))
                go_simp
                refine kq hv.out ?_
                rfl
              · intro ac w hR hd hk K hK
                have e26 : ac.tmps[26]?.getD undef = (.pointer (some ⟨g4, 0, none⟩) : Value) := slot ((hd 9 _ 26 rfl rfl rfl).val rfl)
                have x0 := stay hR y0
                refine yes (want_g rfl rfl ((hd 4 _ 21 rfl rfl rfl).val rfl)) ?_
                have hv := hid (hK (.string X0) w (PrV.is rfl rfl) (Below.refl _ _))
                go_simp
                refine kq hv.out ?_
                rfl
              · exact fun ac w hR hd hk K hK => yes (want_g rfl rfl ((hd 4 _ 21 rfl rfl rfl).val rfl)) (wp_callv 63 _ _ rfl _ Try.func63 rfl rfl _ (args2 ((hd 8 _ 25 rfl rfl rfl).val rfl) ((hd 10 _ 27 rfl rfl rfl).val rfl)) (kQ w hR) (by rintro e w' ⟨rfl, hb⟩; exact ⟨_, rfl, hK _ w' (PrV.is rfl rfl) (by subst hb; exact Below.refl _ _)⟩))
              · intro ac w hR hd hk K hK
                have e28 : ac.tmps[28]?.getD undef = (.int .i64 pl : Value) := slot ((hd 11 _ 28 rfl rfl rfl).val rfl)
                have dd := e1
                refine yes (want_g rfl rfl ((hd 4 _ 21 rfl rfl rfl).val rfl)) ?_
                have hv := hid (hK (.bool false) w (PrV.is rfl rfl) (Below.refl _ _))
                go_simp
                refine kq hv.out ?_
                rfl
              · exact fun ac w hR hd hk K hK => yes (want_n rfl) (wp_pick _ _ _ rfl false _ ((hd 4 _ 21 rfl rfl rfl).val rfl) ((hd 12 _ 29 rfl rfl rfl).val rfl) (hK _ w (PrV.is rfl rfl) (Below.refl _ _)))
              · exact fun ac w hR hd hk K hK => yes (want_n rfl) (wp_mv _ rfl _ ((hd 13 _ 30 rfl rfl rfl).val rfl) (hK _ w (PrV.is rfl rfl) (Below.refl _ _)))
              · intro ac w hR hd hk K hK
                have e4 : ac.tmps[4]?.getD undef = (.pointer (some ⟨g4, 0, none⟩) : Value) := slot (get_keep (hk 4 (no_dst (by kernel_rfl))) rfl)
                refine yes (want_g rfl rfl ((hd 14 _ 31 rfl rfl rfl).val rfl)) ?_
                have hv := hid (hK (.pointer (some ⟨g4, 1, none⟩)) w (PrV.is rfl rfl) (Below.refl _ _))
                go_simp
                refine kq hv.out ?_
                rfl
              · intro ac w hR hd hk K hK
                have e32 : ac.tmps[32]?.getD undef = (.pointer (some ⟨g4, 1, none⟩) : Value) := slot ((hd 15 _ 32 rfl rfl rfl).val rfl)
                have x0 := stay hR y1
                refine yes (want_g rfl rfl ((hd 14 _ 31 rfl rfl rfl).val rfl)) ?_
                have hv := hid (hK (.int .i64 X1) w (PrV.is rfl rfl) (Below.refl _ _))
                go_simp
                refine kq hv.out ?_
                rfl
              · intro ac w hR hd hk K hK
                have e33 : ac.tmps[33]?.getD undef = (.int .i64 X1 : Value) := slot ((hd 16 _ 33 rfl rfl rfl).val rfl)
                have dd := e2
                refine yes (want_g rfl rfl ((hd 14 _ 31 rfl rfl rfl).val rfl)) ?_
                have hv := hid (hK (.bool false) w (PrV.is rfl rfl) (Below.refl _ _))
                go_simp
                refine kq hv.out ?_
                rfl
              · exact fun ac w hR hd hk K hK => yes (want_n rfl) (wp_pick _ _ _ rfl false _ ((hd 14 _ 31 rfl rfl rfl).val rfl) ((hd 17 _ 34 rfl rfl rfl).val rfl) (hK _ w (PrV.is rfl rfl) (Below.refl _ _)))
              · exact fun ac w hR hd hk K hK => yes (want_n rfl) (wp_mv _ rfl _ ((hd 18 _ 35 rfl rfl rfl).val rfl) (hK _ w (PrV.is rfl rfl) (Below.refl _ _)))
              · intro ac w hR hd hk K hK
                have e4 : ac.tmps[4]?.getD undef = (.pointer (some ⟨g4, 0, none⟩) : Value) := slot (get_keep (hk 4 (no_dst (by kernel_rfl))) rfl)
                refine yes (want_g rfl rfl ((hd 19 _ 36 rfl rfl rfl).val rfl)) ?_
                have hv := hid (hK (.pointer (some ⟨g4, 1, none⟩)) w (PrV.is rfl rfl) (Below.refl _ _))
                go_simp
                refine kq hv.out ?_
                rfl
              · intro ac w hR hd hk K hK
                have e37 : ac.tmps[37]?.getD undef = (.pointer (some ⟨g4, 1, none⟩) : Value) := slot ((hd 20 _ 37 rfl rfl rfl).val rfl)
                have x0 := stay hR y1
                refine yes (want_g rfl rfl ((hd 19 _ 36 rfl rfl rfl).val rfl)) ?_
                have hv := hid (hK (.int .i64 X1) w (PrV.is rfl rfl) (Below.refl _ _))
                go_simp
                refine kq hv.out ?_
                rfl
              · intro ac w hR hd hk K hK
                have e38 : ac.tmps[38]?.getD undef = (.int .i64 X1 : Value) := slot ((hd 21 _ 38 rfl rfl rfl).val rfl)
                have dd := e3
                refine yes (want_g rfl rfl ((hd 19 _ 36 rfl rfl rfl).val rfl)) ?_
                have hv := hid (hK (.bool true) w (PrV.is rfl rfl) (Below.refl _ _))
                go_simp
                refine kq hv.out ?_
                rfl
              · exact fun ac w hR hd hk K hK => yes (want_n rfl) (wp_pick _ _ _ rfl false _ ((hd 19 _ 36 rfl rfl rfl).val rfl) ((hd 22 _ 39 rfl rfl rfl).val rfl) (hK _ w (PrV.is rfl rfl) (Below.refl _ _)))
              · exact fun ac w hR hd hk K hK => yes (want_n rfl) (wp_mv _ rfl _ ((hd 23 _ 40 rfl rfl rfl).val rfl) (hK _ w (PrV.is rfl rfl) (Below.refl _ _)))
              · exact fun ac w hR hd hk K hK => nope (want_f rfl rfl ((hd 24 _ 41 rfl rfl rfl).val rfl) (by decide)) (hK _ w (PrV.is rfl rfl) (Below.refl _ _))
              · exact fun ac w hR hd hk K hK => nope (want_f rfl rfl ((hd 24 _ 41 rfl rfl rfl).val rfl) (by decide)) (hK _ w (PrV.is rfl rfl) (Below.refl _ _))
              · exact fun ac w hR hd hk K hK => nope (want_f rfl rfl ((hd 24 _ 41 rfl rfl rfl).val rfl) (by decide)) (hK _ w (PrV.is rfl rfl) (Below.refl _ _))
              · exact fun ac w hR hd hk K hK => yes (want_n rfl) (wp_pick _ _ _ rfl true _ ((hd 24 _ 41 rfl rfl rfl).val rfl) rfl (hK _ w (PrV.is rfl rfl) (Below.refl _ _)))
              · exact fun ac w hR hd hk K hK => yes (want_n rfl) (wp_mv _ rfl _ ((hd 28 _ 45 rfl rfl rfl).val rfl) (hK _ w (PrV.is rfl rfl) (Below.refl _ _)))
              · exact fun ac w hR hd hk K hK => nope (want_f rfl rfl ((hd 29 _ 46 rfl rfl rfl).val rfl) (by decide)) (hK _ w (PrV.is rfl rfl) (Below.refl _ _))
              · exact fun ac w hR hd hk K hK => nope (want_f rfl rfl ((hd 29 _ 46 rfl rfl rfl).val rfl) (by decide)) (hK _ w (PrV.is rfl rfl) (Below.refl _ _))
              · exact fun ac w hR hd hk K hK => nope (want_f rfl rfl ((hd 29 _ 46 rfl rfl rfl).val rfl) (by decide)) (hK _ w (PrV.is rfl rfl) (Below.refl _ _))
              · exact fun ac w hR hd hk K hK => yes (want_n rfl) (wp_pick _ _ _ rfl true _ ((hd 29 _ 46 rfl rfl rfl).val rfl) rfl (hK _ w (PrV.is rfl rfl) (Below.refl _ _)))
              · exact fun ac w hR hd hk K hK => yes (want_n rfl) (wp_mv _ rfl _ ((hd 33 _ 50 rfl rfl rfl).val rfl) (hK _ w (PrV.is rfl rfl) (Below.refl _ _)))
              · exact fun ac w hR hd hk K hK => nope (want_f rfl rfl ((hd 34 _ 51 rfl rfl rfl).val rfl) (by decide)) (hK _ w (PrV.is rfl rfl) (Below.refl _ _))
              · exact fun ac w hR hd hk K hK => nope (want_f rfl rfl ((hd 34 _ 51 rfl rfl rfl).val rfl) (by decide)) (hK _ w (PrV.is rfl rfl) (Below.refl _ _))
              · exact fun ac w hR hd hk K hK => nope (want_f rfl rfl ((hd 34 _ 51 rfl rfl rfl).val rfl) (by decide)) (hK _ w (PrV.is rfl rfl) (Below.refl _ _))
              · exact fun ac w hR hd hk K hK => yes (want_n rfl) (wp_pick _ _ _ rfl true _ ((hd 34 _ 51 rfl rfl rfl).val rfl) rfl (hK _ w (PrV.is rfl rfl) (Below.refl _ _)))
              · exact fun ac w hR hd hk K hK => yes (want_n rfl) (wp_mv _ rfl _ ((hd 38 _ 55 rfl rfl rfl).val rfl) (hK _ w (PrV.is rfl rfl) (Below.refl _ _)))
              · exact fun ac w hR hd hk K hK => nope (want_f rfl rfl ((hd 39 _ 56 rfl rfl rfl).val rfl) (by decide)) (hK _ w (PrV.is rfl rfl) (Below.refl _ _))
              · exact fun ac w hR hd hk K hK => nope (want_f rfl rfl ((hd 39 _ 56 rfl rfl rfl).val rfl) (by decide)) (hK _ w (PrV.is rfl rfl) (Below.refl _ _))
              · exact fun ac w hR hd hk K hK => nope (want_f rfl rfl ((hd 39 _ 56 rfl rfl rfl).val rfl) (by decide)) (hK _ w (PrV.is rfl rfl) (Below.refl _ _))
              · exact fun ac w hR hd hk K hK => yes (want_n rfl) (wp_pick _ _ _ rfl true _ ((hd 39 _ 56 rfl rfl rfl).val rfl) rfl (hK _ w (PrV.is rfl rfl) (Below.refl _ _)))
            · intro a w5 hdf hsz hkp hval hRw
              obtain ⟨f, hf⟩ : ∃ f, f = fun d => a.tmps.getD d undef := ⟨_, rfl⟩
              have h60 : f 60 = .bool true := by rw [hf]; exact (hval 43 _ 60 rfl rfl).val rfl
              have hfa := act_filled hdf hsz hkp
              rw [← hf] at hfa
              rw [hfa]
              clear hdf hsz hkp hval hfa hf
              clear a
              simp only [fillAll, List.set_cons_zero, List.set_cons_succ, h60]
              clear h60
              have B5 := bnext B2 hRw
              have hf := hid (hbad.out fun h => by have hh := hqi.out.1 h.2; omega)
              subst hg1
              go_wp2
              go_ret
              rw [hf.out]; exact ⟨rfl, B5⟩
          have e3 : decide (1000 < X1) = false := by simpa using q3
          by_cases q4 : X2 < -1
          · have e4 : decide (X2 < -1) = true := by simpa using q4
            refine wp_region_drawn (Rel := fun w w' => Below w.heap.size w w') (Pr := PrV (pv16w4 g1 g4 qb qo qk qc j X0 X1 X2 X3 pl) [] (fun _ _ _ => True)) (by kernel_rfl) (by kernel_rfl) (drew_below _) bel_tr (PrV.mono (fun _ _ _ _ _ _ => trivial)) ?_ ?_
            · refine ⟨?_, ?_, ?_, ?_, ?_, ?_, ?_, ?_, ?_, ?_, ?_, ?_, ?_, ?_, ?_, ?_, ?_, ?_, ?_, ?_, ?_, ?_, ?_, ?_, ?_, ?_, ?_, ?_, ?_, ?_, ?_, ?_, ?_, ?_, ?_, ?_, ?_, ?_, ?_, ?_, ?_, ?_, ?_, ?_, trivial⟩
              · intro ac w hR hd hk K hK
                have e4 : ac.tmps[4]?.getD undef = (.pointer (some ⟨g4, 0, none⟩) : Value) := slot (get_keep (hk 4 (no_dst (by kernel_rfl))) rfl)
                refine yes (want_n rfl) ?_
                have hv := hid (hK (.pointer (some ⟨g4, 0, none⟩)) w (PrV.is rfl rfl) (Below.refl _ _))
                go_simp
                refine kq hv.out ?_
                rfl
              · intro ac w hR hd hk K hK
                have e17 : ac.tmps[17]?.getD undef = (.pointer (some ⟨g4, 0, none⟩) : Value) := slot ((hd 0 _ 17 rfl rfl rfl).val rfl)
                have x0 := stay hR y0
                refine yes (want_n rfl) ?_
                have hv := hid (hK (.string X0) w (PrV.is rfl rfl) (Below.refl _ _))
                go_simp
                refine kq hv.out ?_
                rfl
              · exact fun ac w hR hd hk K hK => yes (want_n rfl) (wp_callv 34 _ _ rfl _ Try.func34 rfl rfl _ (args1 ((hd 1 _ 18 rfl rfl rfl).val rfl)) (kN w) (by rintro e w' ⟨rfl, hb⟩; exact ⟨_, rfl, hK _ w' (PrV.is rfl rfl) (by subst hb; exact Below.refl _ _)⟩))
              · intro ac w hR hd hk K hK
                have e19 : ac.tmps[19]?.getD undef = (.bool true : Value) := slot ((hd 2 _ 19 rfl rfl rfl).val rfl)
                refine yes (want_n rfl) ?_
                have hv := hid (hK (.bool false) w (PrV.is rfl rfl) (Below.refl _ _))
                go_simp
                refine kq hv.out ?_
                rfl
              · exact fun ac w hR hd hk K hK => yes (want_n rfl) (wp_mv _ rfl _ ((hd 3 _ 20 rfl rfl rfl).val rfl) (hK _ w (PrV.is rfl rfl) (Below.refl _ _)))
              · intro ac w hR hd hk K hK
                have e1 : ac.tmps[1]?.getD undef = (.pointer (some ⟨g1, 0, none⟩) : Value) := slot (get_keep (hk 1 (no_dst (by kernel_rfl))) rfl)
                refine yes (want_g rfl rfl ((hd 4 _ 21 rfl rfl rfl).val rfl)) ?_
                have hv := hid (hK (.pointer (some ⟨g1, 3, none⟩)) w (PrV.is rfl rfl) (Below.refl _ _))
                go_simp
                refine kq hv.out ?_
                rfl
              · intro ac w hR hd hk K hK
                have e22 : ac.tmps[22]?.getD undef = (.pointer (some ⟨g1, 3, none⟩) : Value) := slot ((hd 5 _ 22 rfl rfl rfl).val rfl)
                have x0 := stay hR z3
                refine yes (want_g rfl rfl ((hd 4 _ 21 rfl rfl rfl).val rfl)) ?_
                have hv := hid (hK (.slice (some ⟨qb, qo, none⟩) qk qc) w (PrV.is rfl rfl) (Below.refl _ _))
                go_simp
                refine kq hv.out ?_
                rfl
              · exact fun ac w hR hd hk K hK => yes (want_g rfl rfl ((hd 4 _ 21 rfl rfl rfl).val rfl)) (wp_mv _ rfl _ (get_keep (hk 3 (no_dst (by kernel_rfl))) rfl) (hK _ w (PrV.is rfl rfl) (Below.refl _ _)))
              · intro ac w hR hd hk K hK
                have e23 : ac.tmps[23]?.getD undef = (.slice (some ⟨qb, qo, none⟩) qk qc : Value) := slot ((hd 6 _ 23 rfl rfl rfl).val rfl)
                have e24 : ac.tmps[24]?.getD undef = (.int .i64 (j : Int) : Value) := slot ((hd 7 _ 24 rfl rfl rfl).val rfl)
                have f1 := hjc
                have f2 := hjk
                have f3 := hc0
                have f4 := hj0
                refine yes (want_g rfl rfl ((hd 4 _ 21 rfl rfl rfl).val rfl)) ?_
                have hv := hid (hK (.slice (some ⟨qb, qo, none⟩) j qc) w (PrV.is rfl rfl) (Below.refl _ _))
                go_simp
                refine kq hv.out ?_
                rfl
              · intro ac w hR hd hk K hK
                have e4 : ac.tmps[4]?.getD undef = (.pointer (some ⟨g4, 0, none⟩) : Value) := slot (get_keep (hk 4 (no_dst (by kernel_rfl))) rfl)
                refine yes (want_g rfl rfl ((hd 4 _ 21 rfl rfl rfl).val rfl)) ?_
                have hv := hid (hK (.pointer (some ⟨g4, 0, none⟩)) w (PrV.is rfl rfl) (Below.refl _ _))
                go_simp
                refine kq hv.out ?_
                rfl
              · intro ac w hR hd hk K hK
                have e26 : ac.tmps[26]?.getD undef = (.pointer (some ⟨g4, 0, none⟩) : Value) := slot ((hd 9 _ 26 rfl rfl rfl).val rfl)
                have x0 := stay hR y0
                refine yes (want_g rfl rfl ((hd 4 _ 21 rfl rfl rfl).val rfl)) ?_
                have hv := hid (hK (.string X0) w (PrV.is rfl rfl) (Below.refl _ _))
                go_simp
                refine kq hv.out ?_
                rfl
              · exact fun ac w hR hd hk K hK => yes (want_g rfl rfl ((hd 4 _ 21 rfl rfl rfl).val rfl)) (wp_callv 63 _ _ rfl _ Try.func63 rfl rfl _ (args2 ((hd 8 _ 25 rfl rfl rfl).val rfl) ((hd 10 _ 27 rfl rfl rfl).val rfl)) (kQ w hR) (by rintro e w' ⟨rfl, hb⟩; exact ⟨_, rfl, hK _ w' (PrV.is rfl rfl) (by subst hb; exact Below.refl _ _)⟩))
              · intro ac w hR hd hk K hK
                have e28 : ac.tmps[28]?.getD undef = (.int .i64 pl : Value) := slot ((hd 11 _ 28 rfl rfl rfl).val rfl)
                have dd := e1
                refine yes (want_g rfl rfl ((hd 4 _ 21 rfl rfl rfl).val rfl)) ?_
                have hv := hid (hK (.bool false) w (PrV.is rfl rfl) (Below.refl _ _))
                go_simp
                refine kq hv.out ?_
                rfl
              · exact fun ac w hR hd hk K hK => yes (want_n rfl) (wp_pick _ _ _ rfl false _ ((hd 4 _ 21 rfl rfl rfl).val rfl) ((hd 12 _ 29 rfl rfl rfl).val rfl) (hK _ w (PrV.is rfl rfl) (Below.refl _ _)))
              · exact fun ac w hR hd hk K hK => yes (want_n rfl) (wp_mv _ rfl _ ((hd 13 _ 30 rfl rfl rfl).val rfl) (hK _ w (PrV.is rfl rfl) (Below.refl _ _)))
              · intro ac w hR hd hk K hK
                have e4 : ac.tmps[4]?.getD undef = (.pointer (some ⟨g4, 0, none⟩) : Value) := slot (get_keep (hk 4 (no_dst (by kernel_rfl))) rfl)
                refine yes (want_g rfl rfl ((hd 14 _ 31 rfl rfl rfl).val rfl)) ?_
                have hv := hid (hK (.pointer (some ⟨g4, 1, none⟩)) w (PrV.is rfl rfl) (Below.refl _ _))
                go_simp
                refine kq hv.out ?_
                rfl
              · intro ac w hR hd hk K hK
                have e32 : ac.tmps[32]?.getD undef = (.pointer (some ⟨g4, 1, none⟩) : Value) := slot ((hd 15 _ 32 rfl rfl rfl).val rfl)
                have x0 := stay hR y1
                refine yes (want_g rfl rfl ((hd 14 _ 31 rfl rfl rfl).val rfl)) ?_
                have hv := hid (hK (.int .i64 X1) w (PrV.is rfl rfl) (Below.refl _ _))
                go_simp
                refine kq hv.out ?_
                rfl
              · intro ac w hR hd hk K hK
                have e33 : ac.tmps[33]?.getD undef = (.int .i64 X1 : Value) := slot ((hd 16 _ 33 rfl rfl rfl).val rfl)
                have dd := e2
                refine yes (want_g rfl rfl ((hd 14 _ 31 rfl rfl rfl).val rfl)) ?_
                have hv := hid (hK (.bool false) w (PrV.is rfl rfl) (Below.refl _ _))
                go_simp
                refine kq hv.out ?_
                rfl
              · exact fun ac w hR hd hk K hK => yes (want_n rfl) (wp_pick _ _ _ rfl false _ ((hd 14 _ 31 rfl rfl rfl).val rfl) ((hd 17 _ 34 rfl rfl rfl).val rfl) (hK _ w (PrV.is rfl rfl) (Below.refl _ _)))
              · exact fun ac w hR hd hk K hK => yes (want_n rfl) (wp_mv _ rfl _ ((hd 18 _ 35 rfl rfl rfl).val rfl) (hK _ w (PrV.is rfl rfl) (Below.refl _ _)))
              · intro ac w hR hd hk K hK
                have e4 : ac.tmps[4]?.getD undef = (.pointer (some ⟨g4, 0, none⟩) : Value) := slot (get_keep (hk 4 (no_dst (by kernel_rfl))) rfl)
                refine yes (want_g rfl rfl ((hd 19 _ 36 rfl rfl rfl).val rfl)) ?_
                have hv := hid (hK (.pointer (some ⟨g4, 1, none⟩)) w (PrV.is rfl rfl) (Below.refl _ _))
                go_simp
                refine kq hv.out ?_
                rfl
              · intro ac w hR hd hk K hK
                have e37 : ac.tmps[37]?.getD undef = (.pointer (some ⟨g4, 1, none⟩) : Value) := slot ((hd 20 _ 37 rfl rfl rfl).val rfl)
                have x0 := stay hR y1
                refine yes (want_g rfl rfl ((hd 19 _ 36 rfl rfl rfl).val rfl)) ?_
                have hv := hid (hK (.int .i64 X1) w (PrV.is rfl rfl) (Below.refl _ _))
                go_simp
                refine kq hv.out ?_
                rfl
              · intro ac w hR hd hk K hK
                have e38 : ac.tmps[38]?.getD undef = (.int .i64 X1 : Value) := slot ((hd 21 _ 38 rfl rfl rfl).val rfl)
                have dd := e3
                refine yes (want_g rfl rfl ((hd 19 _ 36 rfl rfl rfl).val rfl)) ?_
                have hv := hid (hK (.bool false) w (PrV.is rfl rfl) (Below.refl _ _))
                go_simp
                refine kq hv.out ?_
                rfl
              · exact fun ac w hR hd hk K hK => yes (want_n rfl) (wp_pick _ _ _ rfl false _ ((hd 19 _ 36 rfl rfl rfl).val rfl) ((hd 22 _ 39 rfl rfl rfl).val rfl) (hK _ w (PrV.is rfl rfl) (Below.refl _ _)))
              · exact fun ac w hR hd hk K hK => yes (want_n rfl) (wp_mv _ rfl _ ((hd 23 _ 40 rfl rfl rfl).val rfl) (hK _ w (PrV.is rfl rfl) (Below.refl _ _)))
              · intro ac w hR hd hk K hK
                have e4 : ac.tmps[4]?.getD undef = (.pointer (some ⟨g4, 0, none⟩) : Value) := slot (get_keep (hk 4 (no_dst (by kernel_rfl))) rfl)
                refine yes (want_g rfl rfl ((hd 24 _ 41 rfl rfl rfl).val rfl)) ?_
                have hv := hid (hK (.pointer (some ⟨g4, 2, none⟩)) w (PrV.is rfl rfl) (Below.refl _ _))
                go_simp
                refine kq hv.out ?_
                rfl
              · intro ac w hR hd hk K hK
                have e42 : ac.tmps[42]?.getD undef = (.pointer (some ⟨g4, 2, none⟩) : Value) := slot ((hd 25 _ 42 rfl rfl rfl).val rfl)
                have x0 := stay hR y2
                refine yes (want_g rfl rfl ((hd 24 _ 41 rfl rfl rfl).val rfl)) ?_
                have hv := hid (hK (.int .i64 X2) w (PrV.is rfl rfl) (Below.refl _ _))
                go_simp
                refine kq hv.out ?_
                rfl
              · intro ac w hR hd hk K hK
                have e43 : ac.tmps[43]?.getD undef = (.int .i64 X2 : Value) := slot ((hd 26 _ 43 rfl rfl rfl).val rfl)
                have dd := e4
                refine yes (want_g rfl rfl ((hd 24 _ 41 rfl rfl rfl).val rfl)) ?_
                have hv := hid (hK (.bool true) w (PrV.is rfl rfl) (Below.refl _ _))
                go_simp
                refine kq hv.out ?_
                rfl
              · exact fun ac w hR hd hk K hK => yes (want_n rfl) (wp_pick _ _ _ rfl false _ ((hd 24 _ 41 rfl rfl rfl).val rfl) ((hd 27 _ 44 rfl rfl rfl).val rfl) (hK _ w (PrV.is rfl rfl) (Below.refl _ _)))
              · exact fun ac w hR hd hk K hK => yes (want_n rfl) (wp_mv _ rfl _ ((hd 28 _ 45 rfl rfl rfl).val rfl) (hK _ w (PrV.is rfl rfl) (Below.refl _ _)))
              · exact fun ac w hR hd hk K hK => nope (want_f rfl rfl ((hd 29 _ 46 rfl rfl rfl).val rfl) (by decide)) (hK _ w (PrV.is rfl rfl) (Below.refl _ _))
              · exact fun ac w hR hd hk K hK => nope (want_f rfl rfl ((hd 29 _ 46 rfl rfl rfl).val rfl) (by decide)) (hK _ w (PrV.is rfl rfl) (Below.refl _ _))
              · exact fun ac w hR hd hk K hK => nope (want_f rfl rfl ((hd 29 _ 46 rfl rfl rfl).val rfl) (by decide)) (hK _ w (PrV.is rfl rfl) (Below.refl _ _))
              · exact fun ac w hR hd hk K hK => yes (want_n rfl) (wp_pick _ _ _ rfl true _ ((hd 29 _ 46 rfl rfl rfl).val rfl) rfl (hK _ w (PrV.is rfl rfl) (Below.refl _ _)))
              · exact fun ac w hR hd hk K hK => yes (want_n rfl) (wp_mv _ rfl _ ((hd 33 _ 50 rfl rfl rfl).val rfl) (hK _ w (PrV.is rfl rfl) (Below.refl _ _)))
              · exact fun ac w hR hd hk K hK => nope (want_f rfl rfl ((hd 34 _ 51 rfl rfl rfl).val rfl) (by decide)) (hK _ w (PrV.is rfl rfl) (Below.refl _ _))
              · exact fun ac w hR hd hk K hK => nope (want_f rfl rfl ((hd 34 _ 51 rfl rfl rfl).val rfl) (by decide)) (hK _ w (PrV.is rfl rfl) (Below.refl _ _))
              · exact fun ac w hR hd hk K hK => nope (want_f rfl rfl ((hd 34 _ 51 rfl rfl rfl).val rfl) (by decide)) (hK _ w (PrV.is rfl rfl) (Below.refl _ _))
              · exact fun ac w hR hd hk K hK => yes (want_n rfl) (wp_pick _ _ _ rfl true _ ((hd 34 _ 51 rfl rfl rfl).val rfl) rfl (hK _ w (PrV.is rfl rfl) (Below.refl _ _)))
              · exact fun ac w hR hd hk K hK => yes (want_n rfl) (wp_mv _ rfl _ ((hd 38 _ 55 rfl rfl rfl).val rfl) (hK _ w (PrV.is rfl rfl) (Below.refl _ _)))
              · exact fun ac w hR hd hk K hK => nope (want_f rfl rfl ((hd 39 _ 56 rfl rfl rfl).val rfl) (by decide)) (hK _ w (PrV.is rfl rfl) (Below.refl _ _))
              · exact fun ac w hR hd hk K hK => nope (want_f rfl rfl ((hd 39 _ 56 rfl rfl rfl).val rfl) (by decide)) (hK _ w (PrV.is rfl rfl) (Below.refl _ _))
              · exact fun ac w hR hd hk K hK => nope (want_f rfl rfl ((hd 39 _ 56 rfl rfl rfl).val rfl) (by decide)) (hK _ w (PrV.is rfl rfl) (Below.refl _ _))
              · exact fun ac w hR hd hk K hK => yes (want_n rfl) (wp_pick _ _ _ rfl true _ ((hd 39 _ 56 rfl rfl rfl).val rfl) rfl (hK _ w (PrV.is rfl rfl) (Below.refl _ _)))
            · intro a w5 hdf hsz hkp hval hRw
              obtain ⟨f, hf⟩ : ∃ f, f = fun d => a.tmps.getD d undef := ⟨_, rfl⟩
              have h60 : f 60 = .bool true := by rw [hf]; exact (hval 43 _ 60 rfl rfl).val rfl
              have hfa := act_filled hdf hsz hkp
              rw [← hf] at hfa
              rw [hfa]
              clear hdf hsz hkp hval hfa hf
              clear a
              simp only [fillAll, List.set_cons_zero, List.set_cons_succ, h60]
              clear h60
              have B5 := bnext B2 hRw
              have hf := hid (hbad.out fun h => by have hh := hqi.out.1 h.2; omega)
              subst hg1
              go_wp2
              go_ret
              rw [hf.out]; exact ⟨rfl, B5⟩
          have e4 : decide (X2 < -1) = false := by simpa using q4
          by_cases q5 : 1073741824 < X2
          · have e5 : decide (1073741824 < X2) = true := by simpa using q5
            refine wp_region_drawn (Rel := fun w w' => Below w.heap.size w w') (Pr := PrV (pv16w5 g1 g4 qb qo qk qc j X0 X1 X2 X3 pl) [] (fun _ _ _ => True)) (by kernel_rfl) (by kernel_rfl) (drew_below _) bel_tr (PrV.mono (fun _ _ _ _ _ _ => trivial)) ?_ ?_
            · refine ⟨?_, ?_, ?_, ?_, ?_, ?_, ?_, ?_, ?_, ?_, ?_, ?_, ?_, ?_, ?_, ?_, ?_, ?_, ?_, ?_, ?_, ?_, ?_, ?_, ?_, ?_, ?_, ?_, ?_, ?_, ?_, ?_, ?_, ?_, ?_, ?_, ?_, ?_, ?_, ?_, ?_, ?_, ?_, ?_, trivial⟩
              · intro ac w hR hd hk K hK
                have e4 : ac.tmps[4]?.getD undef = (.pointer (some ⟨g4, 0, none⟩) : Value) := slot (get_keep (hk 4 (no_dst (by kernel_rfl))) rfl)
                refine yes (want_n rfl) ?_
                have hv := hid (hK (.pointer (some ⟨g4, 0, none⟩)) w (PrV.is rfl rfl) (Below.refl _ _))
                go_simp
                refine kq hv.out ?_
                rfl
              · intro ac w hR hd hk K hK
                have e17 : ac.tmps[17]?.getD undef = (.pointer (some ⟨g4, 0, none⟩) : Value) := slot ((hd 0 _ 17 rfl rfl rfl).val rfl)
                have x0 := stay hR y0
                refine yes (want_n rfl) ?_
                have hv := hid (hK (.string X0) w (PrV.is rfl rfl) (Below.refl _ _))
                go_simp
                refine kq hv.out ?_
                rfl
              · exact fun ac w hR hd hk K hK => yes (want_n rfl) (wp_callv 34 _ _ rfl _ Try.func34 rfl rfl _ (args1 ((hd 1 _ 18 rfl rfl rfl).val rfl)) (kN w) (by rintro e w' ⟨rfl, hb⟩; exact ⟨_, rfl, hK _ w' (PrV.is rfl rfl) (by subst hb; exact Below.refl _ _)⟩))
              · intro ac w hR hd hk K hK
                have e19 : ac.tmps[19]?.getD undef = (.bool true : Value) := slot ((hd 2 _ 19 rfl rfl rfl).val rfl)
                refine yes (want_n rfl) ?_
                have hv := hid (hK (.bool false) w (PrV.is rfl rfl) (Below.refl _ _))
                go_simp
                refine kq hv.out ?_
                rfl
              · exact fun ac w hR hd hk K hK => yes (want_n rfl) (wp_mv _ rfl _ ((hd 3 _ 20 rfl rfl rfl).val rfl) (hK _ w (PrV.is rfl rfl) (Below.refl _ _)))
              · intro ac w hR hd hk K hK
                have e1 : ac.tmps[1]?.getD undef = (.pointer (some ⟨g1, 0, none⟩) : Value) := slot (get_keep (hk 1 (no_dst (by kernel_rfl))) rfl)
                refine yes (want_g rfl rfl ((hd 4 _ 21 rfl rfl rfl).val rfl)) ?_
                have hv := hid (hK (.pointer (some ⟨g1, 3, none⟩)) w (PrV.is rfl rfl) (Below.refl _ _))
                go_simp
                refine kq hv.out ?_
                rfl
              · intro ac w hR hd hk K hK
                have e22 : ac.tmps[22]?.getD undef = (.pointer (some ⟨g1, 3, none⟩) : Value) := slot ((hd 5 _ 22 rfl rfl rfl).val rfl)
                have x0 := stay hR z3
                refine yes (want_g rfl rfl ((hd 4 _ 21 rfl rfl rfl).val rfl)) ?_
                have hv := hid (hK (.slice (some ⟨qb, qo, none⟩) qk qc) w (PrV.is rfl rfl) (Below.refl _ _))
                go_simp
                refine kq hv.out ?_
                rfl
              · exact fun ac w hR hd hk K hK => yes (want_g rfl rfl ((hd 4 _ 21 rfl rfl rfl).val rfl)) (wp_mv _ rfl _ (get_keep (hk 3 (no_dst (by kernel_rfl))) rfl) (hK _ w (PrV.is rfl rfl) (Below.refl _ _)))
              · intro ac w hR hd hk K hK
                have e23 : ac.tmps[23]?.getD undef = (.slice (some ⟨qb, qo, none⟩) qk qc : Value) := slot ((hd 6 _ 23 rfl rfl rfl).val rfl)
                have e24 : ac.tmps[24]?.getD undef = (.int .i64 (j : Int) : Value) := slot ((hd 7 _ 24 rfl rfl rfl).val rfl)
                have f1 := hjc
                have f2 := hjk
                have f3 := hc0
                have f4 := hj0
                refine yes (want_g rfl rfl ((hd 4 _ 21 rfl rfl rfl).val rfl)) ?_
                have hv := hid (hK (.slice (some ⟨qb, qo, none⟩) j qc) w (PrV.is rfl rfl) (Below.refl _ _))
                go_simp
                refine kq hv.out ?_
                rfl
              · intro ac w hR hd hk K hK
                have e4 : ac.tmps[4]?.getD undef = (.pointer (some ⟨g4, 0, none⟩) : Value) := slot (get_keep (hk 4 (no_dst (by kernel_rfl))) rfl)
                refine yes (want_g rfl rfl ((hd 4 _ 21 rfl rfl rfl).val rfl)) ?_
                have hv := hid (hK (.pointer (some ⟨g4, 0, none⟩)) w (PrV.is rfl rfl) (Below.refl _ _))
                go_simp
                refine kq hv.out ?_
                rfl
              · intro ac w hR hd hk K hK
                have e26 : ac.tmps[26]?.getD undef = (.pointer (some ⟨g4, 0, none⟩) : Value) := slot ((hd 9 _ 26 rfl rfl rfl).val rfl)
                have x0 := stay hR y0
                refine yes (want_g rfl rfl ((hd 4 _ 21 rfl rfl rfl).val rfl)) ?_
                have hv := hid (hK (.string X0) w (PrV.is rfl rfl) (Below.refl _ _))
                go_simp
                refine kq hv.out ?_
                rfl
              · exact fun ac w hR hd hk K hK => yes (want_g rfl rfl ((hd 4 _ 21 rfl rfl rfl).val rfl)) (wp_callv 63 _ _ rfl _ Try.func63 rfl rfl _ (args2 ((hd 8 _ 25 rfl rfl rfl).val rfl) ((hd 10 _ 27 rfl rfl rfl).val rfl)) (kQ w hR) (by rintro e w' ⟨rfl, hb⟩; exact ⟨_, rfl, hK _ w' (PrV.is rfl rfl) (by subst hb; exact Below.refl _ _)⟩))
              · intro ac w hR hd hk K hK
                have e28 : ac.tmps[28]?.getD undef = (.int .i64 pl : Value) := slot ((hd 11 _ 28 rfl rfl rfl).val rfl)
                have dd := e1
                refine yes (want_g rfl rfl ((hd 4 _ 21 rfl rfl rfl).val rfl)) ?_
                have hv := hid (hK (.bool false) w (PrV.is rfl rfl) (Below.refl _ _))
                go_simp
                refine kq hv.out ?_
                rfl
              · exact fun ac w hR hd hk K hK => yes (want_n rfl) (wp_pick _ _ _ rfl false _ ((hd 4 _ 21 rfl rfl rfl).val rfl) ((hd 12 _ 29 rfl rfl rfl).val rfl) (hK _ w (PrV.is rfl rfl) (Below.refl _ _)))
              · exact fun ac w hR hd hk K hK => yes (want_n rfl) (wp_mv _ rfl _ ((hd 13 _ 30 rfl rfl rfl).val rfl) (hK _ w (PrV.is rfl rfl) (Below.refl _ _)))
              · intro ac w hR hd hk K hK
                have e4 : ac.tmps[4]?.getD undef = (.pointer (some ⟨g4, 0, none⟩) : Value) := slot (get_keep (hk 4 (no_dst (by kernel_rfl))) rfl)
                refine yes (want_g rfl rfl ((hd 14 _ 31 rfl rfl rfl).val rfl)) ?_
                have hv := hid (hK (.pointer (some ⟨g4, 1, none⟩)) w (PrV.is rfl rfl) (Below.refl _ _))
                go_simp
                refine kq hv.out ?_
                rfl
              · intro ac w hR hd hk K hK
                have e32 : ac.tmps[32]?.getD undef = (.pointer (some ⟨g4, 1, none⟩) : Value) := slot ((hd 15 _ 32 rfl rfl rfl).val rfl)
                have x0 := stay hR y1
                refine yes (want_g rfl rfl ((hd 14 _ 31 rfl rfl rfl).val rfl)) ?_
                have hv := hid (hK (.int .i64 X1) w (PrV.is rfl rfl) (Below.refl _ _))
                go_simp
                refine kq hv.out ?_
                rfl
              · intro ac w hR hd hk K hK
                have e33 : ac.tmps[33]?.getD undef = (.int .i64 X1 : Value) := slot ((hd 16 _ 33 rfl rfl rfl).val rfl)
                have dd := e2
                refine yes (want_g rfl rfl ((hd 14 _ 31 rfl rfl rfl).val rfl)) ?_
                have hv := hid (hK (.bool false) w (PrV.is rfl rfl) (Below.refl _ _))
                go_simp
                refine kq hv.out ?_
                rfl
              · exact fun ac w hR hd hk K hK => yes (want_n rfl) (wp_pick _ _ _ rfl false _ ((hd 14 _ 31 rfl rfl rfl).val rfl) ((hd 17 _ 34 rfl rfl rfl).val rfl) (hK _ w (PrV.is rfl rfl) (Below.refl _ _)))
              · exact fun ac w hR hd hk K hK => yes (want_n rfl) (wp_mv _ rfl _ ((hd 18 _ 35 rfl rfl rfl).val rfl) (hK _ w (PrV.is rfl rfl) (Below.refl _ _)))
              · intro ac w hR hd hk K hK
                have e4 : ac.tmps[4]?.getD undef = (.pointer (some ⟨g4, 0, none⟩) : Value) := slot (get_keep (hk 4 (no_dst (by kernel_rfl))) rfl)
                refine yes (want_g rfl rfl ((hd 19 _ 36 rfl rfl rfl).val rfl)) ?_
                have hv := hid (hK (.pointer (some ⟨g4, 1, none⟩)) w (PrV.is rfl rfl) (Below.refl _ _))
                go_simp
                refine kq hv.out ?_
                rfl
              · intro ac w hR hd hk K hK
                have e37 : ac.tmps[37]?.getD undef = (.pointer (some ⟨g4, 1, none⟩) : Value) := slot ((hd 20 _ 37 rfl rfl rfl).val rfl)
                have x0 := stay hR y1
                refine yes (want_g rfl rfl ((hd 19 _ 36 rfl rfl rfl).val rfl)) ?_
                have hv := hid (hK (.int .i64 X1) w (PrV.is rfl rfl) (Below.refl _ _))
                go_simp
                refine kq hv.out ?_
                rfl
              · intro ac w hR hd hk K hK
                have e38 : ac.tmps[38]?.getD undef = (.int .i64 X1 : Value) := slot ((hd 21 _ 38 rfl rfl rfl).val rfl)
                have dd := e3
                refine yes (want_g rfl rfl ((hd 19 _ 36 rfl rfl rfl).val rfl)) ?_
                have hv := hid (hK (.bool false) w (PrV.is rfl rfl) (Below.refl _ _))
                go_simp
                refine kq hv.out ?_
                rfl
              · exact fun ac w hR hd hk K hK => yes (want_n rfl) (wp_pick _ _ _ rfl false _ ((hd 19 _ 36 rfl rfl rfl).val rfl) ((hd 22 _ 39 rfl rfl rfl).val rfl) (hK _ w (PrV.is rfl rfl) (Below.refl _ _)))
              · exact fun ac w hR hd hk K hK => yes (want_n rfl) (wp_mv _ rfl _ ((hd 23 _ 40 rfl rfl rfl).val rfl) (hK _ w (PrV.is rfl rfl) (Below.refl _ _)))
              · intro ac w hR hd hk K hK
                have e4 : ac.tmps[4]?.getD undef = (.pointer (some ⟨g4, 0, none⟩) : Value) := slot (get_keep (hk 4 (no_dst (by kernel_rfl))) rfl)
                refine yes (want_g rfl rfl ((hd 24 _ 41 rfl rfl rfl).val rfl)) ?_
                have hv := hid (hK (.pointer (some ⟨g4, 2, none⟩)) w (PrV.is rfl rfl) (Below.refl _ _))
                go_simp
                refine kq hv.out ?_
                rfl
              · intro ac w hR hd hk K hK
                have e42 : ac.tmps[42]?.getD undef = (.pointer (some ⟨g4, 2, none⟩) : Value) := slot ((hd 25 _ 42 rfl rfl rfl).val rfl)
                have x0 := stay hR y2
                refine yes (want_g rfl rfl ((hd 24 _ 41 rfl rfl rfl).val rfl)) ?_
                have hv := hid (hK (.int .i64 X2) w (PrV.is rfl rfl) (Below.refl _ _))
                go_simp
                refine kq hv.out ?_
                rfl
              · intro ac w hR hd hk K hK
                have e43 : ac.tmps[43]?.getD undef = (.int .i64 X2 : Value) := slot ((hd 26 _ 43 rfl rfl rfl).val rfl)
                have dd := e4
                refine yes (want_g rfl rfl ((hd 24 _ 41 rfl rfl rfl).val rfl)) ?_
                have hv := hid (hK (.bool false) w (PrV.is rfl rfl) (Below.refl _ _))
                go_simp
                refine kq hv.out ?_
                rfl
              · exact fun ac w hR hd hk K hK => yes (want_n rfl) (wp_pick _ _ _ rfl false _ ((hd 24 _ 41 rfl rfl rfl).val rfl) ((hd 27 _ 44 rfl rfl rfl).val rfl) (hK _ w (PrV.is rfl rfl) (Below.refl _ _)))
              · exact fun ac w hR hd hk K hK => yes (want_n rfl) (wp_mv _ rfl _ ((hd 28 _ 45 rfl rfl rfl).val rfl) (hK _ w (PrV.is rfl rfl) (Below.refl _ _)))
              · intro ac w hR hd hk K hK
                have e4 : ac.tmps[4]?.getD undef = (.pointer (some ⟨g4, 0, none⟩) : Value) := slot (get_keep (hk 4 (no_dst (by kernel_rfl))) rfl)
                refine yes (want_g rfl rfl ((hd 29 _ 46 rfl rfl rfl).val rfl)) ?_
                have hv := hid (hK (.pointer (some ⟨g4, 2, none⟩)) w (PrV.is rfl rfl) (Below.refl _ _))
                go_simp
                refine kq hv.out ?_
                rfl
              · intro ac w hR hd hk K hK
                have e47 : ac.tmps[47]?.getD undef = (.pointer (some ⟨g4, 2, none⟩) : Value) := slot ((hd 30 _ 47 rfl rfl rfl).val rfl)
                have x0 := stay hR y2
                refine yes (want_g rfl rfl ((hd 29 _ 46 rfl rfl rfl).val rfl)) ?_
                have hv := hid (hK (.int .i64 X2) w (PrV.is rfl rfl) (Below.refl _ _))
                go_simp
                refine kq hv.out ?_
                rfl
              · intro ac w hR hd hk K hK
                have e48 : ac.tmps[48]?.getD undef = (.int .i64 X2 : Value) := slot ((hd 31 _ 48 rfl rfl rfl).val rfl)
                have dd := e5
                refine yes (want_g rfl rfl ((hd 29 _ 46 rfl rfl rfl).val rfl)) ?_
                have hv := hid (hK (.bool true) w (PrV.is rfl rfl) (Below.refl _ _))
                go_simp
                refine kq hv.out ?_
                rfl
              · exact fun ac w hR hd hk K hK => yes (want_n rfl) (wp_pick _ _ _ rfl false _ ((hd 29 _ 46 rfl rfl rfl).val rfl) ((hd 32 _ 49 rfl rfl rfl).val rfl) (hK _ w (PrV.is rfl rfl) (Below.refl _ _)))
              · exact fun ac w hR hd hk K hK => yes (want_n rfl) (wp_mv _ rfl _ ((hd 33 _ 50 rfl rfl rfl).val rfl) (hK _ w (PrV.is rfl rfl) (Below.refl _ _)))
              · exact fun ac w hR hd hk K hK => nope (want_f rfl rfl ((hd 34 _ 51 rfl rfl rfl).val rfl) (by decide)) (hK _ w (PrV.is rfl rfl) (Below.refl _ _))
              · exact fun ac w hR hd hk K hK => nope (want_f rfl rfl ((hd 34 _ 51 rfl rfl rfl).val rfl) (by decide)) (hK _ w (PrV.is rfl rfl) (Below.refl _ _))
              · exact fun ac w hR hd hk K hK => nope (want_f rfl rfl ((hd 34 _ 51 rfl rfl rfl).val rfl) (by decide)) (hK _ w (PrV.is rfl rfl) (Below.refl _ _))
              · exact fun ac w hR hd hk K hK => yes (want_n rfl) (wp_pick _ _ _ rfl true _ ((hd 34 _ 51 rfl rfl rfl).val rfl) rfl (hK _ w (PrV.is rfl rfl) (Below.refl _ _)))
              · exact fun ac w hR hd hk K hK => yes (want_n rfl) (wp_mv _ rfl _ ((hd 38 _ 55 rfl rfl rfl).val rfl) (hK _ w (PrV.is rfl rfl) (Below.refl _ _)))
              · exact fun ac w hR hd hk K hK => nope (want_f rfl rfl ((hd 39 _ 56 rfl rfl rfl).val rfl) (by decide)) (hK _ w (PrV.is rfl rfl) (Below.refl _ _))
              · exact fun ac w hR hd hk K hK => nope (want_f rfl rfl ((hd 39 _ 56 rfl rfl rfl).val rfl) (by decide)) (hK _ w (PrV.is rfl rfl) (Below.refl _ _))
              · exact fun ac w hR hd hk K hK => nope (want_f rfl rfl ((hd 39 _ 56 rfl rfl rfl).val rfl) (by decide)) (hK _ w (PrV.is rfl rfl) (Below.refl _ _))
              · exact fun ac w hR hd hk K hK => yes (want_n rfl) (wp_pick _ _ _ rfl true _ ((hd 39 _ 56 rfl rfl rfl).val rfl) rfl (hK _ w (PrV.is rfl rfl) (Below.refl _ _)))
            · intro a w5 hdf hsz hkp hval hRw
              obtain ⟨f, hf⟩ : ∃ f, f = fun d => a.tmps.getD d undef := ⟨_, rfl⟩
              have h60 : f 60 = .bool true := by rw [hf]; exact (hval 43 _ 60 rfl rfl).val rfl
              have hfa := act_filled hdf hsz hkp
              rw [← hf] at hfa
              rw [hfa]
              clear hdf hsz hkp hval hfa hf
              clear a
              simp only [fillAll, List.set_cons_zero, List.set_cons_succ, h60]
              clear h60
              have B5 := bnext B2 hRw
              have hf := hid (hbad.out fun h => by have hh := hqi.out.1 h.2; omega)
              subst hg1
              go_wp2
              go_ret
              rw [hf.out]; exact ⟨rfl, B5⟩
          have e5 : decide (1073741824 < X2) = false := by simpa using q5
          by_cases q6 : X3 < -1
          · have e6 : decide (X3 < -1) = true := by simpa using q6
            refine wp_region_drawn (Rel := fun w w' => Below w.heap.size w w') (Pr := PrV (pv16w6 g1 g4 qb qo qk qc j X0 X1 X2 X3 pl) [] (fun _ _ _ => True)) (by kernel_rfl) (by kernel_rfl) (drew_below _) bel_tr (PrV.mono (fun _ _ _ _ _ _ => trivial)) ?_ ?_
            · refine ⟨?_, ?_, ?_, ?_, ?_, ?_, ?_, ?_, ?_, ?_, ?_, ?_, ?_, ?_, ?_, ?_, ?_, ?_, ?_, ?_, ?_, ?_, ?_, ?_, ?_, ?_, ?_, ?_, ?_, ?_, ?_, ?_, ?_, ?_, ?_, ?_, ?_, ?_, ?_, ?_, ?_, ?_, ?_, ?_, trivial⟩
              · intro ac w hR hd hk K hK
                have e4 : ac.tmps[4]?.getD undef = (.pointer (some ⟨g4, 0, none⟩) : Value) := slot (get_keep (hk 4 (no_dst (by kernel_rfl))) rfl)
                refine yes (want_n rfl) ?_
                have hv := hid (hK (.pointer (some ⟨g4, 0, none⟩)) w (PrV.is rfl rfl) (Below.refl _ _))
                go_simp
                refine kq hv.out ?_
                rfl
              · intro ac w hR hd hk K hK
                have e17 : ac.tmps[17]?.getD undef = (.pointer (some ⟨g4, 0, none⟩) : Value) := slot ((hd 0 _ 17 rfl rfl rfl).val rfl)
                have x0 := stay hR y0
                refine yes (want_n rfl) ?_
                have hv := hid (hK (.string X0) w (PrV.is rfl rfl) (Below.refl _ _))
                go_simp
                refine kq hv.out ?_
                rfl
              · exact fun ac w hR hd hk K hK => yes (want_n rfl) (wp_callv 34 _ _ rfl _ Try.func34 rfl rfl _ (args1 ((hd 1 _ 18 rfl rfl rfl).val rfl)) (kN w) (by rintro e w' ⟨rfl, hb⟩; exact ⟨_, rfl, hK _ w' (PrV.is rfl rfl) (by subst hb; exact Below.refl _ _)⟩))
              · intro ac w hR hd hk K hK
                have e19 : ac.tmps[19]?.getD undef = (.bool true : Value) := slot ((hd 2 _ 19 rfl rfl rfl).val rfl)
                refine yes (want_n rfl) ?_
                have hv := hid (hK (.bool false) w (PrV.is rfl rfl) (Below.refl _ _))
                go_simp
                refine kq hv.out ?_
                rfl
              · exact fun ac w hR hd hk K hK => yes (want_n rfl) (wp_mv _ rfl _ ((hd 3 _ 20 rfl rfl rfl).val rfl) (hK _ w (PrV.is rfl rfl) (Below.refl _ _)))
              · intro ac w hR hd hk K hK
                have e1 : ac.tmps[1]?.getD undef = (.pointer (some ⟨g1, 0, none⟩) : Value) := slot (get_keep (hk 1 (no_dst (by kernel_rfl))) rfl)
                refine yes (want_g rfl rfl ((hd 4 _ 21 rfl rfl rfl).val rfl)) ?_
                have hv := hid (hK (.pointer (some ⟨g1, 3, none⟩)) w (PrV.is rfl rfl) (Below.refl _ _))
                go_simp
                refine kq hv.out ?_
                rfl
              · intro ac w hR hd hk K hK
                have e22 : ac.tmps[22]?.getD undef = (.pointer (some ⟨g1, 3, none⟩) : Value) := slot ((hd 5 _ 22 rfl rfl rfl).val rfl)
                have x0 := stay hR z3
                refine yes (want_g rfl rfl ((hd 4 _ 21 rfl rfl rfl).val rfl)) ?_
                have hv := hid (hK (.slice (some ⟨qb, qo, none⟩) qk qc) w (PrV.is rfl rfl) (Below.refl _ _))
                go_simp
                refine kq hv.out ?_
                rfl
              · exact fun ac w hR hd hk K hK => yes (want_g rfl rfl ((hd 4 _ 21 rfl rfl rfl).val rfl)) (wp_mv _ rfl _ (get_keep (hk 3 (no_dst (by kernel_rfl))) rfl) (hK _ w (PrV.is rfl rfl) (Below.refl _ _)))
              · intro ac w hR hd hk K hK
                have e23 : ac.tmps[23]?.getD undef = (.slice (some ⟨qb, qo, none⟩) qk qc : Value) := slot ((hd 6 _ 23 rfl rfl rfl).val rfl)
                have e24 : ac.tmps[24]?.getD undef = (.int .i64 (j : Int) : Value) := slot ((hd 7 _ 24 rfl rfl rfl).val rfl)
                have f1 := hjc
                have f2 := hjk
                have f3 := hc0
                have f4 := hj0
                refine yes (want_g rfl rfl ((hd 4 _ 21 rfl rfl rfl).val rfl)) ?_
                have hv := hid (hK (.slice (some ⟨qb, qo, none⟩) j qc) w (PrV.is rfl rfl) (Below.refl _ _))
                go_simp
                refine kq hv.out ?_
                rfl
              · intro ac w hR hd hk K hK
                have e4 : ac.tmps[4]?.getD undef = (.pointer (some ⟨g4, 0, none⟩) : Value) := slot (get_keep (hk 4 (no_dst (by kernel_rfl))) rfl)
                refine yes (want_g rfl rfl ((hd 4 _ 21 rfl rfl rfl).val rfl)) ?_
                have hv := hid (hK (.pointer (some ⟨g4, 0, none⟩)) w (PrV.is rfl rfl) (Below.refl _ _))
                go_simp
                refine kq hv.out ?_
                rfl
              · intro ac w hR hd hk K hK
                have e26 : ac.tmps[26]?.getD undef = (.pointer (some ⟨g4, 0, none⟩) : Value) := slot ((hd 9 _ 26 rfl rfl rfl).val rfl)
                have x0 := stay hR y0
                refine yes (want_g rfl rfl ((hd 4 _ 21 rfl rfl rfl).val rfl)) ?_
                have hv := hid (hK (.string X0) w (PrV.is rfl rfl) (Below.refl _ _))
                go_simp
                refine kq hv.out ?_
                rfl
              · exact fun ac w hR hd hk K hK => yes (want_g rfl rfl ((hd 4 _ 21 rfl rfl rfl).val rfl)) (wp_callv 63 _ _ rfl _ Try.func63 rfl rfl _ (args2 ((hd 8 _ 25 rfl rfl rfl).val rfl) ((hd 10 _ 27 rfl rfl rfl).val rfl)) (kQ w hR) (by rintro e w' ⟨rfl, hb⟩; exact ⟨_, rfl, hK _ w' (PrV.is rfl rfl) (by subst hb; exact Below.refl _ _)⟩))
              · intro ac w hR hd hk K hK
                have e28 : ac.tmps[28]?.getD undef = (.int .i64 pl : Value) := slot ((hd 11 _ 28 rfl rfl rfl).val rfl)
                have dd := e1
                refine yes (want_g rfl rfl ((hd 4 _ 21 rfl rfl rfl).val rfl)) ?_
                have hv := hid (hK (.bool false) w (PrV.is rfl rfl) (Below.refl _ _))
                go_simp
                refine kq hv.out ?_
                rfl
              · exact fun ac w hR hd hk K hK => yes (want_n rfl) (wp_pick _ _ _ rfl false _ ((hd 4 _ 21 rfl rfl rfl).val rfl) ((hd 12 _ 29 rfl rfl rfl).val rfl) (hK _ w (PrV.is rfl rfl) (Below.refl _ _)))
              · exact fun ac w hR hd hk K hK => yes (want_n rfl) (wp_mv _ rfl _ ((hd 13 _ 30 rfl rfl rfl).val rfl) (hK _ w (PrV.is rfl rfl) (Below.refl _ _)))
              · intro ac w hR hd hk K hK
                have e4 : ac.tmps[4]?.getD undef = (.pointer (some ⟨g4, 0, none⟩) : Value) := slot (get_keep (hk 4 (no_dst (by kernel_rfl))) rfl)
                refine yes (want_g rfl rfl ((hd 14 _ 31 rfl rfl rfl).val rfl)) ?_
                have hv := hid (hK (.pointer (some ⟨g4, 1, none⟩)) w (PrV.is rfl rfl) (Below.refl _ _))
                go_simp
                refine kq hv.out ?_
                rfl
              · intro ac w hR hd hk K hK
                have e32 : ac.tmps[32]?.getD undef = (.pointer (some ⟨g4, 1, none⟩) : Value) := slot ((hd 15 _ 32 rfl rfl rfl).val rfl)
                have x0 := stay hR y1
                refine yes (want_g rfl rfl ((hd 14 _ 31 rfl rfl rfl).val rfl)) ?_
                have hv := hid (hK (.int .i64 X1) w (PrV.is rfl rfl) (Below.refl _ _))
                go_simp
                refine kq hv.out ?_
                rfl
              · intro ac w hR hd hk K hK
                have e33 : ac.tmps[33]?.getD undef = (.int .i64 X1 : Value) := slot ((hd 16 _ 33 rfl rfl rfl).val rfl)
                have dd := e2
                refine yes (want_g rfl rfl ((hd 14 _ 31 rfl rfl rfl).val rfl)) ?_
                have hv := hid (hK (.bool false) w (PrV.is rfl rfl) (Below.refl _ _))
                go_simp
                refine kq hv.out ?_
                rfl
              · exact fun ac w hR hd hk K hK => yes (want_n rfl) (wp_pick _ _ _ rfl false _ ((hd 14 _ 31 rfl rfl rfl).val rfl) ((hd 17 _ 34 rfl rfl rfl).val rfl) (hK _ w (PrV.is rfl rfl) (Below.refl _ _)))
              · exact fun ac w hR hd hk K hK => yes (want_n rfl) (wp_mv _ rfl _ ((hd 18 _ 35 rfl rfl rfl).val rfl) (hK _ w (PrV.is rfl rfl) (Below.refl _ _)))
              · intro ac w hR hd hk K hK
                have e4 : ac.tmps[4]?.getD undef = (.pointer (some ⟨g4, 0, none⟩) : Value) := slot (get_keep (hk 4 (no_dst (by kernel_rfl))) rfl)
                refine yes (want_g rfl rfl ((hd 19 _ 36 rfl rfl rfl).val rfl)) ?_
                have hv := hid (hK (.pointer (some ⟨g4, 1, none⟩)) w (PrV.is rfl rfl) (Below.refl _ _))
                go_simp
                refine kq hv.out ?_
                rfl
              · intro ac w hR hd hk K hK
                have e37 : ac.tmps[37]?.getD undef = (.pointer (some ⟨g4, 1, none⟩) : Value) := slot ((hd 20 _ 37 rfl rfl rfl).val rfl)
                have x0 := stay hR y1
                refine yes (want_g rfl rfl ((hd 19 _ 36 rfl rfl rfl).val rfl)) ?_
                have hv := hid (hK (.int .i64 X1) w (PrV.is rfl rfl) (Below.refl _ _))
                go_simp
                refine kq hv.out ?_
                rfl
              · intro ac w hR hd hk K hK
                have e38 : ac.tmps[38]?.getD undef = (.int .i64 X1 : Value) := slot ((hd 21 _ 38 rfl rfl rfl).val rfl)
                have dd := e3
                refine yes (want_g rfl rfl ((hd 19 _ 36 rfl rfl rfl).val rfl)) ?_
                have hv := hid (hK (.bool false) w (PrV.is rfl rfl) (Below.refl _ _))
                go_simp
                refine kq hv.out ?_
                rfl
              · exact fun ac w hR hd hk K hK => yes (want_n rfl) (wp_pick _ _ _ rfl false _ ((hd 19 _ 36 rfl rfl rfl).val rfl) ((hd 22 _ 39 rfl rfl rfl).val rfl) (hK _ w (PrV.is rfl rfl) (Below.refl _ _)))
              · exact fun ac w hR hd hk K hK => yes (want_n rfl) (wp_mv _ rfl _ ((hd 23 _ 40 rfl rfl rfl).val rfl) (hK _ w (PrV.is rfl rfl) (Below.refl _ _)))
              · intro ac w hR hd hk K hK
                have e4 : ac.tmps[4]?.getD undef = (.pointer (some ⟨g4, 0, none⟩) : Value) := slot (get_keep (hk 4 (no_dst (by kernel_rfl))) rfl)
                refine yes (want_g rfl rfl ((hd 24 _ 41 rfl rfl rfl).val rfl)) ?_
                have hv := hid (hK (.pointer (some ⟨g4, 2, none⟩)) w (PrV.is rfl rfl) (Below.refl _ _))
                go_simp
                refine kq hv.out ?_
                rfl
              · intro ac w hR hd hk K hK
                have e42 : ac.tmps[42]?.getD undef = (.pointer (some ⟨g4, 2, none⟩) : Value) := slot ((hd 25 _ 42 rfl rfl rfl).val rfl)
                have x0 := stay hR y2
                refine yes (want_g rfl rfl ((hd 24 _ 41 rfl rfl rfl).val rfl)) ?_
                have hv := hid (hK (.int .i64 X2) w (PrV.is rfl rfl) (Below.refl _ _))
                go_simp
                refine kq hv.out ?_
                rfl
              · intro ac w hR hd hk K hK
                have e43 : ac.tmps[43]?.getD undef = (.int .i64 X2 : Value) := slot ((hd 26 _ 43 rfl rfl rfl).val rfl)
                have dd := e4
                refine yes (want_g rfl rfl ((hd 24 _ 41 rfl rfl rfl).val rfl)) ?_
                have hv := hid (hK (.bool false) w (PrV.is rfl rfl) (Below.refl _ _))
                go_simp
                refine kq hv.out ?_
                rfl
              · exact fun ac w hR hd hk K hK => yes (want_n rfl) (wp_pick _ _ _ rfl false _ ((hd 24 _ 41 rfl rfl rfl).val rfl) ((hd 27 _ 44 rfl rfl rfl).val rfl) (hK _ w (PrV.is rfl rfl) (Below.refl _ _)))
              · exact fun ac w hR hd hk K hK => yes (want_n rfl) (wp_mv _ rfl _ ((hd 28 _ 45 rfl rfl rfl).val rfl) (hK _ w (PrV.is rfl rfl) (Below.refl _ _)))
              · intro ac w hR hd hk K hK
                have e4 : ac.tmps[4]?.getD undef = (.pointer (some ⟨g4, 0, none⟩) : Value) := slot (get_keep (hk 4 (no_dst (by kernel_rfl))) rfl)
                refine yes (want_g rfl rfl ((hd 29 _ 46 rfl rfl rfl).val rfl)) ?_
                have hv := hid (hK (.pointer (some ⟨g4, 2, none⟩)) w (PrV.is rfl rfl) (Below.refl _ _))
                go_simp
                refine kq hv.out ?_
                rfl
              · intro ac w hR hd hk K hK
                have e47 : ac.tmps[47]?.getD undef = (.pointer (some ⟨g4, 2, none⟩) : Value) := slot ((hd 30 _ 47 rfl rfl rfl).val rfl)
                have x0 := stay hR y2
                refine yes (want_g rfl rfl ((hd 29 _ 46 rfl rfl rfl).val rfl)) ?_
                have hv := hid (hK (.int .i64 X2) w (PrV.is rfl rfl) (Below.refl _ _))
                go_simp
                refine kq hv.out ?_
                rfl
              · intro ac w hR hd hk K hK
                have e48 : ac.tmps[48]?.getD undef = (.int .i64 X2 : Value) := slot ((hd 31 _ 48 rfl rfl rfl).val rfl)
                have dd := e5
                refine yes (want_g rfl rfl ((hd 29 _ 46 rfl rfl rfl).val rfl)) ?_
                have hv := hid (hK (.bool false) w (PrV.is rfl rfl) (Below.refl _ _))
                go_simp
                refine kq hv.out ?_
                rfl
              · exact fun ac w hR hd hk K hK => yes (want_n rfl) (wp_pick _ _ _ rfl false _ ((hd 29 _ 46 rfl rfl rfl).val rfl) ((hd 32 _ 49 rfl rfl rfl).val rfl) (hK _ w (PrV.is rfl rfl) (Below.refl _ _)))
              · exact fun ac w hR hd hk K hK => yes (want_n rfl) (wp_mv _ rfl _ ((hd 33 _ 50 rfl rfl rfl).val rfl) (hK _ w (PrV.is rfl rfl) (Below.refl _ _)))
              · intro ac w hR hd hk K hK
                have e4 : ac.tmps[4]?.getD undef = (.pointer (some ⟨g4, 0, none⟩) : Value) := slot (get_keep (hk 4 (no_dst (by kernel_rfl))) rfl)
                refine yes (want_g rfl rfl ((hd 34 _ 51 rfl rfl rfl).val rfl)) ?_
                have hv := hid (hK (.pointer (some ⟨g4, 3, none⟩)) w (PrV.is rfl rfl) (Below.refl _ _))
                go_simp
                refine kq hv.out ?_
                rfl
              · intro ac w hR hd hk K hK
                have e52 : ac.tmps[52]?.getD undef = (.pointer (some ⟨g4, 3, none⟩) : Value) := slot ((hd 35 _ 52 rfl rfl rfl).val rfl)
                have x0 := stay hR y3
                refine yes (want_g rfl rfl ((hd 34 _ 51 rfl rfl rfl).val rfl)) ?_
                have hv := hid (hK (.int .i64 X3) w (PrV.is rfl rfl) (Below.refl _ _))
                go_simp
                refine kq hv.out ?_
                rfl
              · intro ac w hR hd hk K hK
                have e53 : ac.tmps[53]?.getD undef = (.int .i64 X3 : Value) := slot ((hd 36 _ 53 rfl rfl rfl).val rfl)
                have dd := e6
                refine yes (want_g rfl rfl ((hd 34 _ 51 rfl rfl rfl).val rfl)) ?_
                have hv := hid (hK (.bool true) w (PrV.is rfl rfl) (Below.refl _ _))
                go_simp
                refine kq hv.out ?_
                rfl
              · exact fun ac w hR hd hk K hK => yes (want_n rfl) (wp_pick _ _ _ rfl false _ ((hd 34 _ 51 rfl rfl rfl).val rfl) ((hd 37 _ 54 rfl rfl rfl).val rfl) (hK _ w (PrV.is rfl rfl) (Below.refl _ _)))
              · exact fun ac w hR hd hk K hK => yes (want_n rfl) (wp_mv _ rfl _ ((hd 38 _ 55 rfl rfl rfl).val rfl) (hK _ w (PrV.is rfl rfl) (Below.refl _ _)))
              · exact fun ac w hR hd hk K hK => nope (want_f rfl rfl ((hd 39 _ 56 rfl rfl rfl).val rfl) (by decide)) (hK _ w (PrV.is rfl rfl) (Below.refl _ _))
              · exact fun ac w hR hd hk K hK => nope (want_f rfl rfl ((hd 39 _ 56 rfl rfl rfl).val rfl) (by decide)) (hK _ w (PrV.is rfl rfl) (Below.refl _ _))
              · exact fun ac w hR hd hk K hK => nope (want_f rfl rfl ((hd 39 _ 56 rfl rfl rfl).val rfl) (by decide)) (hK _ w (PrV.is rfl rfl) (Below.refl _ _))
              · exact fun ac w hR hd hk K hK => yes (want_n rfl) (wp_pick _ _ _ rfl true _ ((hd 39 _ 56 rfl rfl rfl).val rfl) rfl (hK _ w (PrV.is rfl rfl) (Below.refl _ _)))
            · intro a w5 hdf hsz hkp hval hRw
              obtain ⟨f, hf⟩ : ∃ f, f = fun d => a.tmps.getD d undef := ⟨_, rfl⟩
              have h60 : f 60 = .bool true := by rw [hf]; exact (hval 43 _ 60 rfl rfl).val rfl
              have hfa := act_filled hdf hsz hkp
              rw [← hf] at hfa
              rw [hfa]
              clear hdf hsz hkp hval hfa hf
              clear a
              simp only [fillAll, List.set_cons_zero, List.set_cons_succ, h60]
              clear h60
              have B5 := bnext B2 hRw
              have hf := hid (hbad.out fun h => by have hh := hqi.out.1 h.2; omega)
              subst hg1
              go_wp2
              go_ret
              rw [hf.out]; exact ⟨rfl, B5⟩
          have e6 : decide (X3 < -1) = false := by simpa using q6
          by_cases q7 : 1073741824 < X3
          · have e7 : decide (1073741824 < X3) = true := by simpa using q7
            refine wp_region_drawn (Rel := fun w w' => Below w.heap.size w w') (Pr := PrV (pv16w7 g1 g4 qb qo qk qc j X0 X1 X2 X3 pl) [] (fun _ _ _ => True)) (by kernel_rfl) (by kernel_rfl) (drew_below _) bel_tr (PrV.mono (fun _ _ _ _ _ _ => trivial)) ?_ ?_
            · refine ⟨?_, ?_, ?_, ?_, ?_, ?_, ?_, ?_, ?_, ?_, ?_, ?_, ?_, ?_, ?_, ?_, ?_, ?_, ?_, ?_, ?_, ?_, ?_, ?_, ?_, ?_, ?_, ?_, ?_, ?_, ?_, ?_, ?_, ?_, ?_, ?_, ?_, ?_, ?_, ?_, ?_, ?_, ?_, ?_, trivial⟩
              · intro ac w hR hd hk K hK
                have e4 : ac.tmps[4]?.getD undef = (.pointer (some ⟨g4, 0, none⟩) : Value) := slot (get_keep (hk 4 (no_dst (by kernel_rfl))) rfl)
                refine yes (want_n rfl) ?_
                have hv := hid (hK (.pointer (some ⟨g4, 0, none⟩)) w (PrV.is rfl rfl) (Below.refl _ _))
                go_simp
                refine kq hv.out ?_
                rfl
              · intro ac w hR hd hk K hK
                have e17 : ac.tmps[17]?.getD undef = (.pointer (some ⟨g4, 0, none⟩) : Value) := slot ((hd 0 _ 17 rfl rfl rfl).val rfl)
                have x0 := stay hR y0
                refine yes (want_n rfl) ?_
                have hv := hid (hK (.string X0) w (PrV.is rfl rfl) (Below.refl _ _))
                go_simp
                refine kq hv.out ?_
                rfl
              · exact fun ac w hR hd hk K hK => yes (want_n rfl) (wp_callv 34 _ _ rfl _ Try.func34 rfl rfl _ (args1 ((hd 1 _ 18 rfl rfl rfl).val rfl)) (kN w) (by rintro e w' ⟨rfl, hb⟩; exact ⟨_, rfl, hK _ w' (PrV.is rfl rfl) (by subst hb; exact Below.refl _ _)⟩))
              · intro ac w hR hd hk K hK
                have e19 : ac.tmps[19]?.getD undef = (.bool true : Value) := slot ((hd 2 _ 19 rfl rfl rfl).val rfl)
                refine yes (want_n rfl) ?_
                have hv := hid (hK (.bool false) w (PrV.is rfl rfl) (Below.refl _ _))
                go_simp
                refine kq hv.out ?_
                rfl
              · exact fun ac w hR hd hk K hK => yes (want_n rfl) (wp_mv _ rfl _ ((hd 3 _ 20 rfl rfl rfl).val rfl) (hK _ w (PrV.is rfl rfl) (Below.refl _ _)))
              · intro ac w hR hd hk K hK
                have e1 : ac.tmps[1]?.getD undef = (.pointer (some ⟨g1, 0, none⟩) : Value) := slot (get_keep (hk 1 (no_dst (by kernel_rfl))) rfl)
                refine yes (want_g rfl rfl ((hd 4 _ 21 rfl rfl rfl).val rfl)) ?_
                have hv := hid (hK (.pointer (some ⟨g1, 3, none⟩)) w (PrV.is rfl rfl) (Below.refl _ _))
                go_simp
                refine kq hv.out ?_
                rfl
              · intro ac w hR hd hk K hK
                have e22 : ac.tmps[22]?.getD undef = (.pointer (some ⟨g1, 3, none⟩) : Value) := slot ((hd 5 _ 22 rfl rfl rfl).val rfl)
                have x0 := stay hR z3
                refine yes (want_g rfl rfl ((hd 4 _ 21 rfl rfl rfl).val rfl)) ?_
                have hv := hid (hK (.slice (some ⟨qb, qo, none⟩) qk qc) w (PrV.is rfl rfl) (Below.refl _ _))
                go_simp
                refine kq hv.out ?_
                rfl
              · exact fun ac w hR hd hk K hK => yes (want_g rfl rfl ((hd 4 _ 21 rfl rfl rfl).val rfl)) (wp_mv _ rfl _ (get_keep (hk 3 (no_dst (by kernel_rfl))) rfl) (hK _ w (PrV.is rfl rfl) (Below.refl _ _)))
              · intro ac w hR hd hk K hK
                have e23 : ac.tmps[23]?.getD undef = (.slice (some ⟨qb, qo, none⟩) qk qc : Value) := slot ((hd 6 _ 23 rfl rfl rfl).val rfl)
                have e24 : ac.tmps[24]?.getD undef = (.int .i64 (j : Int) : Value) := slot ((hd 7 _ 24 rfl rfl rfl).val rfl)
                have f1 := hjc
                have f2 := hjk
                have f3 := hc0
                have f4 := hj0
                refine yes (want_g rfl rfl ((hd 4 _ 21 rfl rfl rfl).val rfl)) ?_
                have hv := hid (hK (.slice (some ⟨qb, qo, none⟩) j qc) w (PrV.is rfl rfl) (Below.refl _ _))
                go_simp
                refine kq hv.out ?_
                rfl
              · intro ac w hR hd hk K hK
                have e4 : ac.tmps[4]?.getD undef = (.pointer (some ⟨g4, 0, none⟩) : Value) := slot (get_keep (hk 4 (no_dst (by kernel_rfl))) rfl)
                refine yes (want_g rfl rfl ((hd 4 _ 21 rfl rfl rfl).val rfl)) ?_
                have hv := hid (hK (.pointer (some ⟨g4, 0, none⟩)) w (PrV.is rfl rfl) (Below.refl _ _))
                go_simp
                refine kq hv.out ?_
                rfl
              · intro ac w hR hd hk K hK
                have e26 : ac.tmps[26]?.getD undef = (.pointer (some ⟨g4, 0, none⟩) : Value) := slot ((hd 9 _ 26 rfl rfl rfl).val rfl)
                have x0 := stay hR y0
                refine yes (want_g rfl rfl ((hd 4 _ 21 rfl rfl rfl).val rfl)) ?_
                have hv := hid (hK (.string X0) w (PrV.is rfl rfl) (Below.refl _ _))
                go_simp
                refine kq hv.out ?_
                rfl
              · exact fun ac w hR hd hk K hK => yes (want_g rfl rfl ((hd 4 _ 21 rfl rfl rfl).val rfl)) (wp_callv 63 _ _ rfl _ Try.func63 rfl rfl _ (args2 ((hd 8 _ 25 rfl rfl rfl).val rfl) ((hd 10 _ 27 rfl rfl rfl).val rfl)) (kQ w hR) (by rintro e w' ⟨rfl, hb⟩; exact ⟨_, rfl, hK _ w' (PrV.is rfl rfl) (by subst hb; exact Below.refl _ _)⟩))
              · intro ac w hR hd hk K hK
                have e28 : ac.tmps[28]?.getD undef = (.int .i64 pl : Value) := slot ((hd 11 _ 28 rfl rfl rfl).val rfl)
                have dd := e1
                refine yes (want_g rfl rfl ((hd 4 _ 21 rfl rfl rfl).val rfl)) ?_
                have hv := hid (hK (.bool false) w (PrV.is rfl rfl) (Below.refl _ _))
                go_simp
                refine kq hv.out ?_
                rfl
              · exact fun ac w hR hd hk K hK => yes (want_n rfl) (wp_pick _ _ _ rfl false _ ((hd 4 _ 21 rfl rfl rfl).val rfl) ((hd 12 _ 29 rfl rfl rfl).val rfl) (hK _ w (PrV.is rfl rfl) (Below.refl _ _)))
              · exact fun ac w hR hd hk K hK => yes (want_n rfl) (wp_mv _ rfl _ ((hd 13 _ 30 rfl rfl rfl).val rfl) (hK _ w (PrV.is rfl rfl) (Below.refl _ _)))
              · intro ac w hR hd hk K hK
                have e4 : ac.tmps[4]?.getD undef = (.pointer (some ⟨g4, 0, none⟩) : Value) := slot (get_keep (hk 4 (no_dst (by kernel_rfl))) rfl)
                refine yes (want_g rfl rfl ((hd 14 _ 31 rfl rfl rfl).val rfl)) ?_
                have hv := hid (hK (.pointer (some ⟨g4, 1, none⟩)) w (PrV.is rfl rfl) (Below.refl _ _))
                go_simp
                refine kq hv.out ?_
                rfl
              · intro ac w hR hd hk K hK
                have e32 : ac.tmps[32]?.getD undef = (.pointer (some ⟨g4, 1, none⟩) : Value) := slot ((hd 15 _ 32 rfl rfl rfl).val rfl)
                have x0 := stay hR y1
                refine yes (want_g rfl rfl ((hd 14 _ 31 rfl rfl rfl).val rfl)) ?_
                have hv := hid (hK (.int .i64 X1) w (PrV.is rfl rfl) (Below.refl _ _))
                go_simp
                refine kq hv.out ?_
                rfl
              · intro ac w hR hd hk K hK
                have e33 : ac.tmps[33]?.getD undef = (.int .i64 X1 : Value) := slot ((hd 16 _ 33 rfl rfl rfl).val rfl)
                have dd := e2
                refine yes (want_g rfl rfl ((hd 14 _ 31 rfl rfl rfl).val rfl)) ?_
                have hv := hid (hK (.bool false) w (PrV.is rfl rfl) (Below.refl _ _))
                go_simp
                refine kq hv.out ?_
                rfl
              · exact fun ac w hR hd hk K hK => yes (want_n rfl) (wp_pick _ _ _ rfl false _ ((hd 14 _ 31 rfl rfl rfl).val rfl) ((hd 17 _ 34 rfl rfl rfl).val rfl) (hK _ w (PrV.is rfl rfl) (Below.refl _ _)))
              · exact fun ac w hR hd hk K hK => yes (want_n rfl) (wp_mv _ rfl _ ((hd 18 _ 35 rfl rfl rfl).val rfl) (hK _ w (PrV.is rfl rfl) (Below.refl _ _)))
              · intro ac w hR hd hk K hK
                have e4 : ac.tmps[4]?.getD undef = (.pointer (some ⟨g4, 0, none⟩) : Value) := slot (get_keep (hk 4 (no_dst (by kernel_rfl))) rfl)
                refine yes (want_g rfl rfl ((hd 19 _ 36 rfl rfl rfl).val rfl)) ?_
                have hv := hid (hK (.pointer (some ⟨g4, 1, none⟩)) w (PrV.is rfl rfl) (Below.refl _ _))
                go_simp
                refine kq hv.out ?_
                rfl
              · intro ac w hR hd hk K hK
                have e37 : ac.tmps[37]?.getD undef = (.pointer (some ⟨g4, 1, none⟩) : Value) := slot ((hd 20 _ 37 rfl rfl rfl).val rfl)
                have x0 := stay hR y1
                refine yes (want_g rfl rfl ((hd 19 _ 36 rfl rfl rfl).val rfl)) ?_
                have hv := hid (hK (.int .i64 X1) w (PrV.is rfl rfl) (Below.refl _ _))
                go_simp
                refine kq hv.out ?_
                rfl
              · intro ac w hR hd hk K hK
                have e38 : ac.tmps[38]?.getD undef = (.int .i64 X1 : Value) := slot ((hd 21 _ 38 rfl rfl rfl).val rfl)
                have dd := e3
                refine yes (want_g rfl rfl ((hd 19 _ 36 rfl rfl rfl).val rfl)) ?_
                have hv := hid (hK (.bool false) w (PrV.is rfl rfl) (Below.refl _ _))
                go_simp
                refine kq hv.out ?_
                rfl
              · exact fun ac w hR hd hk K hK => yes (want_n rfl) (wp_pick _ _ _ rfl false _ ((hd 19 _ 36 rfl rfl rfl).val rfl) ((hd 22 _ 39 rfl rfl rfl).val rfl) (hK _ w (PrV.is rfl rfl) (Below.refl _ _)))
              · exact fun ac w hR hd hk K hK => yes (want_n rfl) (wp_mv _ rfl _ ((hd 23 _ 40 rfl rfl rfl).val rfl) (hK _ w (PrV.is rfl rfl) (Below.refl _ _)))
              · intro ac w hR hd hk K hK
                have e4 : ac.tmps[4]?.getD undef = (.pointer (some ⟨g4, 0, none⟩) : Value) := slot (get_keep (hk 4 (no_dst (by kernel_rfl))) rfl)
                refine yes (want_g rfl rfl ((hd 24 _ 41 rfl rfl rfl).val rfl)) ?_
                have hv := hid (hK (.pointer (some ⟨g4, 2, none⟩)) w (PrV.is rfl rfl) (Below.refl _ _))
                go_simp
                refine kq hv.out ?_
                rfl
              · intro ac w hR hd hk K hK
                have e42 : ac.tmps[42]?.getD undef = (.pointer (some ⟨g4, 2, none⟩) : Value) := slot ((hd 25 _ 42 rfl rfl rfl).val rfl)
                have x0 := stay hR y2
                refine yes (want_g rfl rfl ((hd 24 _ 41 rfl rfl rfl).val rfl)) ?_
                have hv := hid (hK (.int .i64 X2) w (PrV.is rfl rfl) (Below.refl _ _))
                go_simp
                refine kq hv.out ?_
                rfl
              · intro ac w hR hd hk K hK
                have e43 : ac.tmps[43]?.getD undef = (.int .i64 X2 : Value) := slot ((hd 26 _ 43 rfl rfl rfl).val rfl)
                have dd := e4
                refine yes (want_g rfl rfl ((hd 24 _ 41 rfl rfl rfl).val rfl)) ?_
                have hv := hid (hK (.bool false) w (PrV.is rfl rfl) (Below.refl _ _))
                go_simp
                refine kq hv.out ?_
                rfl
              · exact fun ac w hR hd hk K hK => yes (want_n rfl) (wp_pick _ _ _ rfl false _ ((hd 24 _ 41 rfl rfl rfl).val rfl) ((hd 27 _ 44 rfl rfl rfl).val rfl) (hK _ w (PrV.is rfl rfl) (Below.refl _ _)))
              · exact fun ac w hR hd hk K hK => yes (want_n rfl) (wp_mv _ rfl _ ((hd 28 _ 45 rfl rfl rfl).val rfl) (hK _ w (PrV.is rfl rfl) (Below.refl _ _)))
              · intro ac w hR hd hk K hK
                have e4 : ac.tmps[4]?.getD undef = (.pointer (some ⟨g4, 0, none⟩) : Value) := slot (get_keep (hk 4 (no_dst (by kernel_rfl))) rfl)
                refine yes (want_g rfl rfl ((hd 29 _ 46 rfl rfl rfl).val rfl)) ?_
                have hv := hid (hK (.pointer (some ⟨g4, 2, none⟩)) w (PrV.is rfl rfl) (Below.refl _ _))
                go_simp
                refine kq hv.out ?_
                rfl
              · intro ac w hR hd hk K hK
                have e47 : ac.tmps[47]?.getD undef = (.pointer (some ⟨g4, 2, none⟩) : Value) := slot ((hd 30 _ 47 rfl rfl rfl).val rfl)
                have x0 := stay hR y2
                refine yes (want_g rfl rfl ((hd 29 _ 46 rfl rfl rfl).val rfl)) ?_
                have hv := hid (hK (.int .i64 X2) w (PrV.is rfl rfl) (Below.refl _ _))
                go_simp
                refine kq hv.out ?_
                rfl
              · intro ac w hR hd hk K hK
                have e48 : ac.tmps[48]?.getD undef = (.int .i64 X2 : Value) := slot ((hd 31 _ 48 rfl rfl rfl).val rfl)
                have dd := e5
                refine yes (want_g rfl rfl ((hd 29 _ 46 rfl rfl rfl).val rfl)) ?_
                have hv := hid (hK (.bool false) w (PrV.is rfl rfl) (Below.refl _ _))
                go_simp
                refine kq hv.out ?_
                rfl
              · exact fun ac w hR hd hk K hK => yes (want_n rfl) (wp_pick _ _ _ rfl false _ ((hd 29 _ 46 rfl rfl rfl).val rfl) ((hd 32 _ 49 rfl rfl rfl).val rfl) (hK _ w (PrV.is rfl rfl) (Below.refl _ _)))
              · exact fun ac w hR hd hk K hK => yes (want_n rfl) (wp_mv _ rfl _ ((hd 33 _ 50 rfl rfl rfl).val rfl) (hK _ w (PrV.is rfl rfl) (Below.refl _ _)))
              · intro ac w hR hd hk K hK
                have e4 : ac.tmps[4]?.getD undef = (.pointer (some ⟨g4, 0, none⟩) : Value) := slot (get_keep (hk 4 (no_dst (by kernel_rfl))) rfl)
                refine yes (want_g rfl rfl ((hd 34 _ 51 rfl rfl rfl).val rfl)) ?_
                have hv := hid (hK (.pointer (some ⟨g4, 3, none⟩)) w (PrV.is rfl rfl) (Below.refl _ _))
                go_simp
                refine kq hv.out ?_
                rfl
              · intro ac w hR hd hk K hK
                have e52 : ac.tmps[52]?.getD undef = (.pointer (some ⟨g4, 3, none⟩) : Value) := slot ((hd 35 _ 52 rfl rfl rfl).val rfl)
                have x0 := stay hR y3
                refine yes (want_g rfl rfl ((hd 34 _ 51 rfl rfl rfl).val rfl)) ?_
                have hv := hid (hK (.int .i64 X3) w (PrV.is rfl rfl) (Below.refl _ _))
                go_simp
                refine kq hv.out ?_
                rfl
              · intro ac w hR hd hk K hK
                have e53 : ac.tmps[53]?.getD undef = (.int .i64 X3 : Value) := slot ((hd 36 _ 53 rfl rfl rfl).val rfl)
                have dd := e6
                refine yes (want_g rfl rfl ((hd 34 _ 51 rfl rfl rfl).val rfl)) ?_
                have hv := hid (hK (.bool false) w (PrV.is rfl rfl) (Below.refl _ _))
                go_simp
                refine kq hv.out ?_
                rfl
              · exact fun ac w hR hd hk K hK => yes (want_n rfl) (wp_pick _ _ _ rfl false _ ((hd 34 _ 51 rfl rfl rfl).val rfl) ((hd 37 _ 54 rfl rfl rfl).val rfl) (hK _ w (PrV.is rfl rfl) (Below.refl _ _)))
              · exact fun ac w hR hd hk K hK => yes (want_n rfl) (wp_mv _ rfl _ ((hd 38 _ 55 rfl rfl rfl).val rfl) (hK _ w (PrV.is rfl rfl) (Below.refl _ _)))
              · intro ac w hR hd hk K hK
                have e4 : ac.tmps[4]?.getD undef = (.pointer (some ⟨g4, 0, none⟩) : Value) := slot (get_keep (hk 4 (no_dst (by kernel_rfl))) rfl)
                refine yes (want_g rfl rfl ((hd 39 _ 56 rfl rfl rfl).val rfl)) ?_
                have hv := hid (hK (.pointer (some ⟨g4, 3, none⟩)) w (PrV.is rfl rfl) (Below.refl _ _))
                go_simp
                refine kq hv.out ?_
                rfl
              · intro ac w hR hd hk K hK
                have e57 : ac.tmps[57]?.getD undef = (.pointer (some ⟨g4, 3, none⟩) : Value) := slot ((hd 40 _ 57 rfl rfl rfl).val rfl)
                have x0 := stay hR y3
                refine yes (want_g rfl rfl ((hd 39 _ 56 rfl rfl rfl).val rfl)) ?_
                have hv := hid (hK (.int .i64 X3) w (PrV.is rfl rfl) (Below.refl _ _))
                go_simp
                refine kq hv.out ?_
                rfl
              · intro ac w hR hd hk K hK
                have e58 : ac.tmps[58]?.getD undef = (.int .i64 X3 : Value) := slot ((hd 41 _ 58 rfl rfl rfl).val rfl)
                have dd := e7
                refine yes (want_g rfl rfl ((hd 39 _ 56 rfl rfl rfl).val rfl)) ?_
                have hv := hid (hK (.bool true) w (PrV.is rfl rfl) (Below.refl _ _))
                go_simp
                refine kq hv.out ?_
                rfl
              · exact fun ac w hR hd hk K hK => yes (want_n rfl) (wp_pick _ _ _ rfl false _ ((hd 39 _ 56 rfl rfl rfl).val rfl) ((hd 42 _ 59 rfl rfl rfl).val rfl) (hK _ w (PrV.is rfl rfl) (Below.refl _ _)))
            · intro a w5 hdf hsz hkp hval hRw
              obtain ⟨f, hf⟩ : ∃ f, f = fun d => a.tmps.getD d undef := ⟨_, rfl⟩
              have h60 : f 60 = .bool true := by rw [hf]; exact (hval 43 _ 60 rfl rfl).val rfl
              have hfa := act_filled hdf hsz hkp
              rw [← hf] at hfa
              rw [hfa]
              clear hdf hsz hkp hval hfa hf
              clear a
              simp only [fillAll, List.set_cons_zero, List.set_cons_succ, h60]
              clear h60
              have B5 := bnext B2 hRw
              have hf := hid (hbad.out fun h => by have hh := hqi.out.1 h.2; omega)
              subst hg1
              go_wp2
              go_ret
              rw [hf.out]; exact ⟨rfl, B5⟩
          have e7 : decide (1073741824 < X3) = false := by simpa using q7
          refine wp_region_drawn (Rel := fun w w' => Below w.heap.size w w') (Pr := PrV (pv16w8 g1 g4 qb qo qk qc j X0 X1 X2 X3 pl) [] (fun _ _ _ => True)) (by kernel_rfl) (by kernel_rfl) (drew_below _) bel_tr (PrV.mono (fun _ _ _ _ _ _ => trivial)) ?_ ?_
          · refine ⟨?_, ?_, ?_, ?_, ?_, ?_, ?_, ?_, ?_, ?_, ?_, ?_, ?_, ?_, ?_, ?_, ?_, ?_, ?_, ?_, ?_, ?_, ?_, ?_, ?_, ?_, ?_, ?_, ?_, ?_, ?_, ?_, ?_, ?_, ?_, ?_, ?_, ?_, ?_, ?_, ?_, ?_, ?_, ?_, trivial⟩
            · intro ac w hR hd hk K hK
              have e4 : ac.tmps[4]?.getD undef = (.pointer (some ⟨g4, 0, none⟩) : Value) := slot (get_keep (hk 4 (no_dst (by kernel_rfl))) rfl)
              refine yes (want_n rfl) ?_
              have hv := hid (hK (.pointer (some ⟨g4, 0, none⟩)) w (PrV.is rfl rfl) (Below.refl _ _))
              go_simp
              refine kq hv.out ?_
              rfl
            · intro ac w hR hd hk K hK
              have e17 : ac.tmps[17]?.getD undef = (.pointer (some ⟨g4, 0, none⟩) : Value) := slot ((hd 0 _ 17 rfl rfl rfl).val rfl)
              have x0 := stay hR y0
              refine yes (want_n rfl) ?_
              have hv := hid (hK (.string X0) w (PrV.is rfl rfl) (Below.refl _ _))
              go_simp
              refine kq hv.out ?_
              rfl
            · exact fun ac w hR hd hk K hK => yes (want_n rfl) (wp_callv 34 _ _ rfl _ Try.func34 rfl rfl _ (args1 ((hd 1 _ 18 rfl rfl rfl).val rfl)) (kN w) (by rintro e w' ⟨rfl, hb⟩; exact ⟨_, rfl, hK _ w' (PrV.is rfl rfl) (by subst hb; exact Below.refl _ _)⟩))
            · intro ac w hR hd hk K hK
              have e19 : ac.tmps[19]?.getD undef = (.bool true : Value) := slot ((hd 2 _ 19 rfl rfl rfl).val rfl)
              refine yes (want_n rfl) ?_
              have hv := hid (hK (.bool false) w (PrV.is rfl rfl) (Below.refl _ _))
              go_simp
              refine kq hv.out ?_
              rfl
            · exact fun ac w hR hd hk K hK => yes (want_n rfl) (wp_mv _ rfl _ ((hd 3 _ 20 rfl rfl rfl).val rfl) (hK _ w (PrV.is rfl rfl) (Below.refl _ _)))
            · intro ac w hR hd hk K hK
              have e1 : ac.tmps[1]?.getD undef = (.pointer (some ⟨g1, 0, none⟩) : Value) := slot (get_keep (hk 1 (no_dst (by kernel_rfl))) rfl)
              refine yes (want_g rfl rfl ((hd 4 _ 21 rfl rfl rfl).val rfl)) ?_
              have hv := hid (hK (.pointer (some ⟨g1, 3, none⟩)) w (PrV.is rfl rfl) (Below.refl _ _))
              go_simp
              refine kq hv.out ?_
              rfl
            · intro ac w hR hd hk K hK
              have e22 : ac.tmps[22]?.getD undef = (.pointer (some ⟨g1, 3, none⟩) : Value) := slot ((hd 5 _ 22 rfl rfl rfl).val rfl)
              have x0 := stay hR z3
              refine yes (want_g rfl rfl ((hd 4 _ 21 rfl rfl rfl).val rfl)) ?_
              have hv := hid (hK (.slice (some ⟨qb, qo, none⟩) qk qc) w (PrV.is rfl rfl) (Below.refl _ _))
              go_simp
              refine kq hv.out ?_
              rfl
            · exact fun ac w hR hd hk K hK => yes (want_g rfl rfl ((hd 4 _ 21 rfl rfl rfl).val rfl)) (wp_mv _ rfl _ (get_keep (hk 3 (no_dst (by kernel_rfl))) rfl) (hK _ w (PrV.is rfl rfl) (Below.refl _ _)))
            · intro ac w hR hd hk K hK
              have e23 : ac.tmps[23]?.getD undef = (.slice (some ⟨qb, qo, none⟩) qk qc : Value) := slot ((hd 6 _ 23 rfl rfl rfl).val rfl)
              have e24 : ac.tmps[24]?.getD undef = (.int .i64 (j : Int) : Value) := slot ((hd 7 _ 24 rfl rfl rfl).val rfl)
              have f1 := hjc
              have f2 := hjk
              have f3 := hc0
              have f4 := hj0
              refine yes (want_g rfl rfl ((hd 4 _ 21 rfl rfl rfl).val rfl)) ?_
              have hv := hid (hK (.slice (some ⟨qb, qo, none⟩) j qc) w (PrV.is rfl rfl) (Below.refl _ _))
              go_simp
              refine kq hv.out ?_
              rfl
            · intro ac w hR hd hk K hK
              have e4 : ac.tmps[4]?.getD undef = (.pointer (some ⟨g4, 0, none⟩) : Value) := slot (get_keep (hk 4 (no_dst (by kernel_rfl))) rfl)
              refine yes (want_g rfl rfl ((hd 4 _ 21 rfl rfl rfl).val rfl)) ?_
              have hv := hid (hK (.pointer (some ⟨g4, 0, none⟩)) w (PrV.is rfl rfl) (Below.refl _ _))
              go_simp
              refine kq hv.out ?_
              rfl
            · intro ac w hR hd hk K hK
              have e26 : ac.tmps[26]?.getD undef = (.pointer (some ⟨g4, 0, none⟩) : Value) := slot ((hd 9 _ 26 rfl rfl rfl).val rfl)
              have x0 := stay hR y0
              refine yes (want_g rfl rfl ((hd 4 _ 21 rfl rfl rfl).val rfl)) ?_
              have hv := hid (hK (.string X0) w (PrV.is rfl rfl) (Below.refl _ _))
              go_simp
              refine kq hv.out ?_
              rfl
            · exact fun ac w hR hd hk K hK => yes (want_g rfl rfl ((hd 4 _ 21 rfl rfl rfl).val rfl)) (wp_callv 63 _ _ rfl _ Try.func63 rfl rfl _ (args2 ((hd 8 _ 25 rfl rfl rfl).val rfl) ((hd 10 _ 27 rfl rfl rfl).val rfl)) (kQ w hR) (by rintro e w' ⟨rfl, hb⟩; exact ⟨_, rfl, hK _ w' (PrV.is rfl rfl) (by subst hb; exact Below.refl _ _)⟩))
            · intro ac w hR hd hk K hK
              have e28 : ac.tmps[28]?.getD undef = (.int .i64 pl : Value) := slot ((hd 11 _ 28 rfl rfl rfl).val rfl)
              have dd := e1
              refine yes (want_g rfl rfl ((hd 4 _ 21 rfl rfl rfl).val rfl)) ?_
              have hv := hid (hK (.bool false) w (PrV.is rfl rfl) (Below.refl _ _))
              go_simp
              refine kq hv.out ?_
              rfl
            · exact fun ac w hR hd hk K hK => yes (want_n rfl) (wp_pick _ _ _ rfl false _ ((hd 4 _ 21 rfl rfl rfl).val rfl) ((hd 12 _ 29 rfl rfl rfl).val rfl) (hK _ w (PrV.is rfl rfl) (Below.refl _ _)))
            · exact fun ac w hR hd hk K hK => yes (want_n rfl) (wp_mv _ rfl _ ((hd 13 _ 30 rfl rfl rfl).val rfl) (hK _ w (PrV.is rfl rfl) (Below.refl _ _)))
            · intro ac w hR hd hk K hK
              have e4 : ac.tmps[4]?.getD undef = (.pointer (some ⟨g4, 0, none⟩) : Value) := slot (get_keep (hk 4 (no_dst (by kernel_rfl))) rfl)
              refine yes (want_g rfl rfl ((hd 14 _ 31 rfl rfl rfl).val rfl)) ?_
              have hv := hid (hK (.pointer (some ⟨g4, 1, none⟩)) w (PrV.is rfl rfl) (Below.refl _ _))
              go_simp
              refine kq hv.out ?_
              rfl
            · intro ac w hR hd hk K hK
              have e32 : ac.tmps[32]?.getD undef = (.pointer (some ⟨g4, 1, none⟩) : Value) := slot ((hd 15 _ 32 rfl rfl rfl).val rfl)
              have x0 := stay hR y1
              refine yes (want_g rfl rfl ((hd 14 _ 31 rfl rfl rfl).val rfl)) ?_
              have hv := hid (hK (.int .i64 X1) w (PrV.is rfl rfl) (Below.refl _ _))
              go_simp
              refine kq hv.out ?_
              rfl
            · intro ac w hR hd hk K hK
              have e33 : ac.tmps[33]?.getD undef = (.int .i64 X1 : Value) := slot ((hd 16 _ 33 rfl rfl rfl).val rfl)
              have dd := e2
              refine yes (want_g rfl rfl ((hd 14 _ 31 rfl rfl rfl).val rfl)) ?_
              have hv := hid (hK (.bool false) w (PrV.is rfl rfl) (Below.refl _ _))
              go_simp
              refine kq hv.out ?_
              rfl
            · exact fun ac w hR hd hk K hK => yes (want_n rfl) (wp_pick _ _ _ rfl false _ ((hd 14 _ 31 rfl rfl rfl).val rfl) ((hd 17 _ 34 rfl rfl rfl).val rfl) (hK _ w (PrV.is rfl rfl) (Below.refl _ _)))
            · exact fun ac w hR hd hk K hK => yes (want_n rfl) (wp_mv _ rfl _ ((hd 18 _ 35 rfl rfl rfl).val rfl) (hK _ w (PrV.is rfl rfl) (Below.refl _ _)))
            · intro ac w hR hd hk K hK
              have e4 : ac.tmps[4]?.getD undef = (.pointer (some ⟨g4, 0, none⟩) : Value) := slot (get_keep (hk 4 (no_dst (by kernel_rfl))) rfl)
              refine yes (want_g rfl rfl ((hd 19 _ 36 rfl rfl rfl).val rfl)) ?_
              have hv := hid (hK (.pointer (some ⟨g4, 1, none⟩)) w (PrV.is rfl rfl) (Below.refl _ _))
              go_simp
              refine kq hv.out ?_
              rfl
            · intro ac w hR hd hk K hK
              have e37 : ac.tmps[37]?.getD undef = (.pointer (some ⟨g4, 1, none⟩) : Value) := slot ((hd 20 _ 37 rfl rfl rfl).val rfl)
              have x0 := stay hR y1
              refine yes (want_g rfl rfl ((hd 19 _ 36 rfl rfl rfl).val rfl)) ?_
              have hv := hid (hK (.int .i64 X1) w (PrV.is rfl rfl) (Below.refl _ _))
              go_simp
              refine kq hv.out ?_
              rfl
            · intro ac w hR hd hk K hK
              have e38 : ac.tmps[38]?.getD undef = (.int .i64 X1 : Value) := slot ((hd 21 _ 38 rfl rfl rfl).val rfl)
              have dd := e3
              refine yes (want_g rfl rfl ((hd 19 _ 36 rfl rfl rfl).val rfl)) ?_
              have hv := hid (hK (.bool false) w (PrV.is rfl rfl) (Below.refl _ _))
              go_simp
              refine kq hv.out ?_
              rfl
            · exact fun ac w hR hd hk K hK => yes (want_n rfl) (wp_pick _ _ _ rfl false _ ((hd 19 _ 36 rfl rfl rfl).val rfl) ((hd 22 _ 39 rfl rfl rfl).val rfl) (hK _ w (PrV.is rfl rfl) (Below.refl _ _)))
            · exact fun ac w hR hd hk K hK => yes (want_n rfl) (wp_mv _ rfl _ ((hd 23 _ 40 rfl rfl rfl).val rfl) (hK _ w (PrV.is rfl rfl) (Below.refl _ _)))
            · intro ac w hR hd hk K hK
              have e4 : ac.tmps[4]?.getD undef = (.pointer (some ⟨g4, 0, none⟩) : Value) := slot (get_keep (hk 4 (no_dst (by kernel_rfl))) rfl)
              refine yes (want_g rfl rfl ((hd 24 _ 41 rfl rfl rfl).val rfl)) ?_
              have hv := hid (hK (.pointer (some ⟨g4, 2, none⟩)) w (PrV.is rfl rfl) (Below.refl _ _))
              go_simp
              refine kq hv.out ?_
              rfl
            · intro ac w hR hd hk K hK
              have e42 : ac.tmps[42]?.getD undef = (.pointer (some ⟨g4, 2, none⟩) : Value) := slot ((hd 25 _ 42 rfl rfl rfl).val rfl)
              have x0 := stay hR y2
              refine yes (want_g rfl rfl ((hd 24 _ 41 rfl rfl rfl).val rfl)) ?_
              have hv := hid (hK (.int .i64 X2) w (PrV.is rfl rfl) (Below.refl _ _))
              go_simp
              refine kq hv.out ?_
              rfl
            · intro ac w hR hd hk K hK
              have e43 : ac.tmps[43]?.getD undef = (.int .i64 X2 : Value) := slot ((hd 26 _ 43 rfl rfl rfl).val rfl)
              have dd := e4
              refine yes (want_g rfl rfl ((hd 24 _ 41 rfl rfl rfl).val rfl)) ?_
              have hv := hid (hK (.bool false) w (PrV.is rfl rfl) (Below.refl _ _))
              go_simp
              refine kq hv.out ?_
              rfl
            · exact fun ac w hR hd hk K hK => yes (want_n rfl) (wp_pick _ _ _ rfl false _ ((hd 24 _ 41 rfl rfl rfl).val rfl) ((hd 27 _ 44 rfl rfl rfl).val rfl) (hK _ w (PrV.is rfl rfl) (Below.refl _ _)))
            · exact fun ac w hR hd hk K hK => yes (want_n rfl) (wp_mv _ rfl _ ((hd 28 _ 45 rfl rfl rfl).val rfl) (hK _ w (PrV.is rfl rfl) (Below.refl _ _)))
            · intro ac w hR hd hk K hK
              have e4 : ac.tmps[4]?.getD undef = (.pointer (some ⟨g4, 0, none⟩) : Value) := slot (get_keep (hk 4 (no_dst (by kernel_rfl))) rfl)
              refine yes (want_g rfl rfl ((hd 29 _ 46 rfl rfl rfl).val rfl)) ?_
              have hv := hid (hK (.pointer (some ⟨g4, 2, none⟩)) w (PrV.is rfl rfl) (Below.refl _ _))
              go_simp
              refine kq hv.out ?_
              rfl
            · intro ac w hR hd hk K hK
              have e47 : ac.tmps[47]?.getD undef = (.pointer (some ⟨g4, 2, none⟩) : Value) := slot ((hd 30 _ 47 rfl rfl rfl).val rfl)
              have x0 := stay hR y2
              refine yes (want_g rfl rfl ((hd 29 _ 46 rfl rfl rfl).val rfl)) ?_
              have hv := hid (hK (.int .i64 X2) w (PrV.is rfl rfl) (Below.refl _ _))
              go_simp
              refine kq hv.out ?_
              rfl
            · intro ac w hR hd hk K hK
              have e48 : ac.tmps[48]?.getD undef = (.int .i64 X2 : Value) := slot ((hd 31 _ 48 rfl rfl rfl).val rfl)
              have dd := e5
              refine yes (want_g rfl rfl ((hd 29 _ 46 rfl rfl rfl).val rfl)) ?_
              have hv := hid (hK (.bool false) w (PrV.is rfl rfl) (Below.refl _ _))
              go_simp
              refine kq hv.out ?_
              rfl
            · exact fun ac w hR hd hk K hK => yes (want_n rfl) (wp_pick _ _ _ rfl false _ ((hd 29 _ 46 rfl rfl rfl).val rfl) ((hd 32 _ 49 rfl rfl rfl).val rfl) (hK _ w (PrV.is rfl rfl) (Below.refl _ _)))
            · exact fun ac w hR hd hk K hK => yes (want_n rfl) (wp_mv _ rfl _ ((hd 33 _ 50 rfl rfl rfl).val rfl) (hK _ w (PrV.is rfl rfl) (Below.refl _ _)))
            · intro ac w hR hd hk K hK
              have e4 : ac.tmps[4]?.getD undef = (.pointer (some ⟨g4, 0, none⟩) : Value) := slot (get_keep (hk 4 (no_dst (by kernel_rfl))) rfl)
              refine yes (want_g rfl rfl ((hd 34 _ 51 rfl rfl rfl).val rfl)) ?_
              have hv := hid (hK (.pointer (some ⟨g4, 3, none⟩)) w (PrV.is rfl rfl) (Below.refl _ _))
              go_simp
              refine kq hv.out ?_
              rfl
            · intro ac w hR hd hk K hK
              have e52 : ac.tmps[52]?.getD undef = (.pointer (some ⟨g4, 3, none⟩) : Value) := slot ((hd 35 _ 52 rfl rfl rfl).val rfl)
              have x0 := stay hR y3
              refine yes (want_g rfl rfl ((hd 34 _ 51 rfl rfl rfl).val rfl)) ?_
              have hv := hid (hK (.int .i64 X3) w (PrV.is rfl rfl) (Below.refl _ _))
              go_simp
              refine kq hv.out ?_
              rfl
            · intro ac w hR hd hk K hK
              have e53 : ac.tmps[53]?.getD undef = (.int .i64 X3 : Value) := slot ((hd 36 _ 53 rfl rfl rfl).val rfl)
              have dd := e6
              refine yes (want_g rfl rfl ((hd 34 _ 51 rfl rfl rfl).val rfl)) ?_
              have hv := hid (hK (.bool false) w (PrV.is rfl rfl) (Below.refl _ _))
              go_simp
              refine kq hv.out ?_
              rfl
            · exact fun ac w hR hd hk K hK => yes (want_n rfl) (wp_pick _ _ _ rfl false _ ((hd 34 _ 51 rfl rfl rfl).val rfl) ((hd 37 _ 54 rfl rfl rfl).val rfl) (hK _ w (PrV.is rfl rfl) (Below.refl _ _)))
            · exact fun ac w hR hd hk K hK => yes (want_n rfl) (wp_mv _ rfl _ ((hd 38 _ 55 rfl rfl rfl).val rfl) (hK _ w (PrV.is rfl rfl) (Below.refl _ _)))
            · intro ac w hR hd hk K hK
              have e4 : ac.tmps[4]?.getD undef = (.pointer (some ⟨g4, 0, none⟩) : Value) := slot (get_keep (hk 4 (no_dst (by kernel_rfl))) rfl)
              refine yes (want_g rfl rfl ((hd 39 _ 56 rfl rfl rfl).val rfl)) ?_
              have hv := hid (hK (.pointer (some ⟨g4, 3, none⟩)) w (PrV.is rfl rfl) (Below.refl _ _))
              go_simp
              refine kq hv.out ?_
              rfl
            · intro ac w hR hd hk K hK
              have e57 : ac.tmps[57]?.getD undef = (.pointer (some ⟨g4, 3, none⟩) : Value) := slot ((hd 40 _ 57 rfl rfl rfl).val rfl)
              have x0 := stay hR y3
              refine yes (want_g rfl rfl ((hd 39 _ 56 rfl rfl rfl).val rfl)) ?_
              have hv := hid (hK (.int .i64 X3) w (PrV.is rfl rfl) (Below.refl _ _))
              go_simp
              refine kq hv.out ?_
              rfl
            · intro ac w hR hd hk K hK
              have e58 : ac.tmps[58]?.getD undef = (.int .i64 X3 : Value) := slot ((hd 41 _ 58 rfl rfl rfl).val rfl)
              have dd := e7
              refine yes (want_g rfl rfl ((hd 39 _ 56 rfl rfl rfl).val rfl)) ?_
              have hv := hid (hK (.bool false) w (PrV.is rfl rfl) (Below.refl _ _))
              go_simp
              refine kq hv.out ?_
              rfl
            · exact fun ac w hR hd hk K hK => yes (want_n rfl) (wp_pick _ _ _ rfl false _ ((hd 39 _ 56 rfl rfl rfl).val rfl) ((hd 42 _ 59 rfl rfl rfl).val rfl) (hK _ w (PrV.is rfl rfl) (Below.refl _ _)))
          · intro a w5 hdf hsz hkp hval hRw
            obtain ⟨f, hf⟩ : ∃ f, f = fun d => a.tmps.getD d undef := ⟨_, rfl⟩
            have h60 : f 60 = .bool false := by rw [hf]; exact (hval 43 _ 60 rfl rfl).val rfl
            have hfa := act_filled hdf hsz hkp
            rw [← hf] at hfa
            rw [hfa]
            clear hdf hsz hkp hval hfa hf
            clear a
            simp only [fillAll, List.set_cons_zero, List.set_cons_succ, h60]
            clear h60
            have b5 := bnext b2 hRw
            have hok2 := hid (hgood.out ⟨hr, hqi.out.2 ⟨hb0, by omega, by omega, by omega, by omega, by omega, by omega⟩⟩)
            subst hg1
            subst hg4
            replace hok := hid hok
            go_wp2_with fail
            go_roundw
            case rel => exact ⟨j + 1, by omega, by go_num, hok2, b5⟩
            case measure => simp [intOf]; omega
        · have e1 := hp.out.2 hr
          refine wp_region_drawn (Rel := fun w w' => Below w.heap.size w w') (Pr := PrV (pv16w1 g1 g4 qb qo qk qc j X0 X1 X2 X3 pl) [] (fun _ _ _ => True)) (by kernel_rfl) (by kernel_rfl) (drew_below _) bel_tr (PrV.mono (fun _ _ _ _ _ _ => trivial)) ?_ ?_
          · refine ⟨?_, ?_, ?_, ?_, ?_, ?_, ?_, ?_, ?_, ?_, ?_, ?_, ?_, ?_, ?_, ?_, ?_, ?_, ?_, ?_, ?_, ?_, ?_, ?_, ?_, ?_, ?_, ?_, ?_, ?_, ?_, ?_, ?_, ?_, ?_, ?_, ?_, ?_, ?_, ?_, ?_, ?_, ?_, ?_, trivial⟩
            · intro ac w hR hd hk K hK
              have e4 : ac.tmps[4]?.getD undef = (.pointer (some ⟨g4, 0, none⟩) : Value) := slot (get_keep (hk 4 (no_dst (by kernel_rfl))) rfl)
              refine yes (want_n rfl) ?_
              have hv := hid (hK (.pointer (some ⟨g4, 0, none⟩)) w (PrV.is rfl rfl) (Below.refl _ _))
              go_simp
              refine kq hv.out ?_
              rfl
            · intro ac w hR hd hk K hK
              have e17 : ac.tmps[17]?.getD undef = (.pointer (some ⟨g4, 0, none⟩) : Value) := slot ((hd 0 _ 17 rfl rfl rfl).val rfl)
              have x0 := stay hR y0
              refine yes (want_n rfl) ?_
              have hv := hid (hK (.string X0) w (PrV.is rfl rfl) (Below.refl _ _))
              go_simp
              refine kq hv.out ?_
              rfl
            · exact fun ac w hR hd hk K hK => yes (want_n rfl) (wp_callv 34 _ _ rfl _ Try.func34 rfl rfl _ (args1 ((hd 1 _ 18 rfl rfl rfl).val rfl)) (kN w) (by rintro e w' ⟨rfl, hb⟩; exact ⟨_, rfl, hK _ w' (PrV.is rfl rfl) (by subst hb; exact Below.refl _ _)⟩))
            · intro ac w hR hd hk K hK
              have e19 : ac.tmps[19]?.getD undef = (.bool true : Value) := slot ((hd 2 _ 19 rfl rfl rfl).val rfl)
              refine yes (want_n rfl) ?_
              have hv := hid (hK (.bool false) w (PrV.is rfl rfl) (Below.refl _ _))
              go_simp
              refine kq hv.out ?_
              rfl
            · exact fun ac w hR hd hk K hK => yes (want_n rfl) (wp_mv _ rfl _ ((hd 3 _ 20 rfl rfl rfl).val rfl) (hK _ w (PrV.is rfl rfl) (Below.refl _ _)))
            · intro ac w hR hd hk K hK
              have e1 : ac.tmps[1]?.getD undef = (.pointer (some ⟨g1, 0, none⟩) : Value) := slot (get_keep (hk 1 (no_dst (by kernel_rfl))) rfl)
              refine yes (want_g rfl rfl ((hd 4 _ 21 rfl rfl rfl).val rfl)) ?_
              have hv := hid (hK (.pointer (some ⟨g1, 3, none⟩)) w (PrV.is rfl rfl) (Below.refl _ _))
              go_simp
              refine kq hv.out ?_
              rfl
            · intro ac w hR hd hk K hK
              have e22 : ac.tmps[22]?.getD undef = (.pointer (some ⟨g1, 3, none⟩) : Value) := slot ((hd 5 _ 22 rfl rfl rfl).val rfl)
              have x0 := stay hR z3
              refine yes (want_g rfl rfl ((hd 4 _ 21 rfl rfl rfl).val rfl)) ?_
              have hv := hid (hK (.slice (some ⟨qb, qo, none⟩) qk qc) w (PrV.is rfl rfl) (Below.refl _ _))
              go_simp
              refine kq hv.out ?_
              rfl
            · exact fun ac w hR hd hk K hK => yes (want_g rfl rfl ((hd 4 _ 21 rfl rfl rfl).val rfl)) (wp_mv _ rfl _ (get_keep (hk 3 (no_dst (by kernel_rfl))) rfl) (hK _ w (PrV.is rfl rfl) (Below.refl _ _)))
            · intro ac w hR hd hk K hK
              have e23 : ac.tmps[23]?.getD undef = (.slice (some ⟨qb, qo, none⟩) qk qc : Value) := slot ((hd 6 _ 23 rfl rfl rfl).val rfl)
              have e24 : ac.tmps[24]?.getD undef = (.int .i64 (j : Int) : Value) := slot ((hd 7 _ 24 rfl rfl rfl).val rfl)
              have f1 := hjc
              have f2 := hjk
              have f3 := hc0
              have f4 := hj0
              refine yes (want_g rfl rfl ((hd 4 _ 21 rfl rfl rfl).val rfl)) ?_
              have hv := hid (hK (.slice (some ⟨qb, qo, none⟩) j qc) w (PrV.is rfl rfl) (Below.refl _ _))
              go_simp
              refine kq hv.out ?_
              rfl
            · intro ac w hR hd hk K hK
              have e4 : ac.tmps[4]?.getD undef = (.pointer (some ⟨g4, 0, none⟩) : Value) := slot (get_keep (hk 4 (no_dst (by kernel_rfl))) rfl)
              refine yes (want_g rfl rfl ((hd 4 _ 21 rfl rfl rfl).val rfl)) ?_
              have hv := hid (hK (.pointer (some ⟨g4, 0, none⟩)) w (PrV.is rfl rfl) (Below.refl _ _))
              go_simp
              refine kq hv.out ?_
              rfl
            · intro ac w hR hd hk K hK
              have e26 : ac.tmps[26]?.getD undef = (.pointer (some ⟨g4, 0, none⟩) : Value) := slot ((hd 9 _ 26 rfl rfl rfl).val rfl)
              have x0 := stay hR y0
              refine yes (want_g rfl rfl ((hd 4 _ 21 rfl rfl rfl).val rfl)) ?_
              have hv := hid (hK (.string X0) w (PrV.is rfl rfl) (Below.refl _ _))
              go_simp
              refine kq hv.out ?_
              rfl
            · exact fun ac w hR hd hk K hK => yes (want_g rfl rfl ((hd 4 _ 21 rfl rfl rfl).val rfl)) (wp_callv 63 _ _ rfl _ Try.func63 rfl rfl _ (args2 ((hd 8 _ 25 rfl rfl rfl).val rfl) ((hd 10 _ 27 rfl rfl rfl).val rfl)) (kQ w hR) (by rintro e w' ⟨rfl, hb⟩; exact ⟨_, rfl, hK _ w' (PrV.is rfl rfl) (by subst hb; exact Below.refl _ _)⟩))
            · intro ac w hR hd hk K hK
              have e28 : ac.tmps[28]?.getD undef = (.int .i64 pl : Value) := slot ((hd 11 _ 28 rfl rfl rfl).val rfl)
              have dd := e1
              refine yes (want_g rfl rfl ((hd 4 _ 21 rfl rfl rfl).val rfl)) ?_
              have hv := hid (hK (.bool true) w (PrV.is rfl rfl) (Below.refl _ _))
              go_simp
              refine kq hv.out ?_
              rfl
            · exact fun ac w hR hd hk K hK => yes (want_n rfl) (wp_pick _ _ _ rfl false _ ((hd 4 _ 21 rfl rfl rfl).val rfl) ((hd 12 _ 29 rfl rfl rfl).val rfl) (hK _ w (PrV.is rfl rfl) (Below.refl _ _)))
            · exact fun ac w hR hd hk K hK => yes (want_n rfl) (wp_mv _ rfl _ ((hd 13 _ 30 rfl rfl rfl).val rfl) (hK _ w (PrV.is rfl rfl) (Below.refl _ _)))
            · exact fun ac w hR hd hk K hK => nope (want_f rfl rfl ((hd 14 _ 31 rfl rfl rfl).val rfl) (by decide)) (hK _ w (PrV.is rfl rfl) (Below.refl _ _))
            · exact fun ac w hR hd hk K hK => nope (want_f rfl rfl ((hd 14 _ 31 rfl rfl rfl).val rfl) (by decide)) (hK _ w (PrV.is rfl rfl) (Below.refl _ _))
            · exact fun ac w hR hd hk K hK => nope (want_f rfl rfl ((hd 14 _ 31 rfl rfl rfl).val rfl) (by decide)) (hK _ w (PrV.is rfl rfl) (Below.refl _ _))
            · exact fun ac w hR hd hk K hK => yes (want_n rfl) (wp_pick _ _ _ rfl true _ ((hd 14 _ 31 rfl rfl rfl).val rfl) rfl (hK _ w (PrV.is rfl rfl) (Below.refl _ _)))
            · exact fun ac w hR hd hk K hK => yes (want_n rfl) (wp_mv _ rfl _ ((hd 18 _ 35 rfl rfl rfl).val rfl) (hK _ w (PrV.is rfl rfl) (Below.refl _ _)))
            · exact fun ac w hR hd hk K hK => nope (want_f rfl rfl ((hd 19 _ 36 rfl rfl rfl).val rfl) (by decide)) (hK _ w (PrV.is rfl rfl) (Below.refl _ _))
            · exact fun ac w hR hd hk K hK => nope (want_f rfl rfl ((hd 19 _ 36 rfl rfl rfl).val rfl) (by decide)) (hK _ w (PrV.is rfl rfl) (Below.refl _ _))
            · exact fun ac w hR hd hk K hK => nope (want_f rfl rfl ((hd 19 _ 36 rfl rfl rfl).val rfl) (by decide)) (hK _ w (PrV.is rfl rfl) (Below.refl _ _))
            · exact fun ac w hR hd hk K hK => yes (want_n rfl) (wp_pick _ _ _ rfl true _ ((hd 19 _ 36 rfl rfl rfl).val rfl) rfl (hK _ w (PrV.is rfl rfl) (Below.refl _ _)))
            · exact fun ac w hR hd hk K hK => yes (want_n rfl) (wp_mv _ rfl _ ((hd 23 _ 40 rfl rfl rfl).val rfl) (hK _ w (PrV.is rfl rfl) (Below.refl _ _)))
            · exact fun ac w hR hd hk K hK => nope (want_f rfl rfl ((hd 24 _ 41 rfl rfl rfl).val rfl) (by decide)) (hK _ w (PrV.is rfl rfl) (Below.refl _ _))
            · exact fun ac w hR hd hk K hK => nope (want_f rfl rfl ((hd 24 _ 41 rfl rfl rfl).val rfl) (by decide)) (hK _ w (PrV.is rfl rfl) (Below.refl _ _))
            · exact fun ac w hR hd hk K hK => nope (want_f rfl rfl ((hd 24 _ 41 rfl rfl rfl).val rfl) (by decide)) (hK _ w (PrV.is rfl rfl) (Below.refl _ _))
            · exact fun ac w hR hd hk K hK => yes (want_n rfl) (wp_pick _ _ _ rfl true _ ((hd 24 _ 41 rfl rfl rfl).val rfl) rfl (hK _ w (PrV.is rfl rfl) (Below.refl _ _)))
            · exact fun ac w hR hd hk K hK => yes (want_n rfl) (wp_mv _ rfl _ ((hd 28 _ 45 rfl rfl rfl).val rfl) (hK _ w (PrV.is rfl rfl) (Below.refl _ _)))
            · exact fun ac w hR hd hk K hK => nope (want_f rfl rfl ((hd 29 _ 46 rfl rfl rfl).val rfl) (by decide)) (hK _ w (PrV.is rfl rfl) (Below.refl _ _))
            · exact fun ac w hR hd hk K hK => nope (want_f rfl rfl ((hd 29 _ 46 rfl rfl rfl).val rfl) (by decide)) (hK _ w (PrV.is rfl rfl) (Below.refl _ _))
            · exact fun ac w hR hd hk K hK => nope (want_f rfl rfl ((hd 29 _ 46 rfl rfl rfl).val rfl) (by decide)) (hK _ w (PrV.is rfl rfl) (Below.refl _ _))
            · exact fun ac w hR hd hk K hK => yes (want_n rfl) (wp_pick _ _ _ rfl true _ ((hd 29 _ 46 rfl rfl rfl).val rfl) rfl (hK _ w (PrV.is rfl rfl) (Below.refl _ _)))
            · exact fun ac w hR hd hk K hK => yes (want_n rfl) (wp_mv _ rfl _ ((hd 33 _ 50 rfl rfl rfl).val rfl) (hK _ w (PrV.is rfl rfl) (Below.refl _ _)))
            · exact fun ac w hR hd hk K hK => nope (want_f rfl rfl ((hd 34 _ 51 rfl rfl rfl).val rfl) (by decide)) (hK _ w (PrV.is rfl rfl) (Below.refl _ _))
            · exact fun ac w hR hd hk K hK => nope (want_f rfl rfl ((hd 34 _ 51 rfl rfl rfl).val rfl) (by decide)) (hK _ w (PrV.is rfl rfl) (Below.refl _ _))
            · exact fun ac w hR hd hk K hK => nope (want_f rfl rfl ((hd 34 _ 51 rfl rfl rfl).val rfl) (by decide)) (hK _ w (PrV.is rfl rfl) (Below.refl _ _))
            · exact fun ac w hR hd hk K hK => yes (want_n rfl) (wp_pick _ _ _ rfl true _ ((hd 34 _ 51 rfl rfl rfl).val rfl) rfl (hK _ w (PrV.is rfl rfl) (Below.refl _ _)))
            · exact fun ac w hR hd hk K hK => yes (want_n rfl) (wp_mv _ rfl _ ((hd 38 _ 55 rfl rfl rfl).val rfl) (hK _ w (PrV.is rfl rfl) (Below.refl _ _)))
            · exact fun ac w hR hd hk K hK => nope (want_f rfl rfl ((hd 39 _ 56 rfl rfl rfl).val rfl) (by decide)) (hK _ w (PrV.is rfl rfl) (Below.refl _ _))
            · exact fun ac w hR hd hk K hK => nope (want_f rfl rfl ((hd 39 _ 56 rfl rfl rfl).val rfl) (by decide)) (hK _ w (PrV.is rfl rfl) (Below.refl _ _))
            · exact fun ac w hR hd hk K hK => nope (want_f rfl rfl ((hd 39 _ 56 rfl rfl rfl).val rfl) (by decide)) (hK _ w (PrV.is rfl rfl) (Below.refl _ _))
            · exact fun ac w hR hd hk K hK => yes (want_n rfl) (wp_pick _ _ _ rfl true _ ((hd 39 _ 56 rfl rfl rfl).val rfl) rfl (hK _ w (PrV.is rfl rfl) (Below.refl _ _)))
          · intro a w5 hdf hsz hkp hval hRw
            obtain ⟨f, hf⟩ : ∃ f, f = fun d => a.tmps.getD d undef := ⟨_, rfl⟩
            have h60 : f 60 = .bool true := by rw [hf]; exact (hval 43 _ 60 rfl rfl).val rfl
            have hfa := act_filled hdf hsz hkp
            rw [← hf] at hfa
            rw [hfa]
            clear hdf hsz hkp hval hfa hf
            clear a
            simp only [fillAll, List.set_cons_zero, List.set_cons_succ, h60]
            clear h60
            have B5 := bnext B2 hRw
            have hf := hid (hbad.out fun h => hr h.1)
            subst hg1
            go_wp2
            go_ret
            rw [hf.out]; exact ⟨rfl, B5⟩
    · have hje : j = qk := by omega
      subst hje
      have z2 := stay hb v2.out
      have hall := hid (qright_all (L := Q) (by rw [hQ.out]; exact hok.out))
      rw [hQ.out] at hall
      by_cases h1 : 1 ≤ j
      · have d1 : decide ((1 : Int) ≤ (j : Int)) = true := decide_eq_true (by omega)
        by_cases h8 : j ≤ 8
        · have d8 : decide ((j : Int) ≤ 8) = true := decide_eq_true (by omega)
          have hf : Hid (confB A Q = rightB A) := hid (by unfold confB; rw [hall.out, decide_eq_true ⟨h1, h8⟩, Bool.and_true])
          go_wp2_with fail
          refine (kA _ Bw).mono ?_
          rintro e w5 ⟨rfl, hb5⟩
          have B5 := bnext Bw hb5
          go_wp2
          go_ret
          rw [hf.out]
          refine ⟨ret_bool ?_, B5⟩
          cases rightB A <;> rfl
        · have d8 : decide ((j : Int) ≤ 8) = false := decide_eq_false (by omega)
          have hf : Hid (confB A Q = false) := hid (by unfold confB; rw [hall.out, decide_eq_false (fun h => h8 h.2), Bool.and_false])
          go_wp2
          go_ret
          rw [hf.out]; exact ⟨rfl, Bw⟩
      · have d1 : decide ((1 : Int) ≤ (j : Int)) = false := decide_eq_false (by omega)
        have hf : Hid (confB A Q = false) := hid (by unfold confB; rw [hall.out, decide_eq_false (fun h => h1 h.1), Bool.and_false])
        go_wp2
        go_ret
        rw [hf.out]; exact ⟨rfl, Bw⟩

end Go.Proofs.Ytilncacmkfohdaa
