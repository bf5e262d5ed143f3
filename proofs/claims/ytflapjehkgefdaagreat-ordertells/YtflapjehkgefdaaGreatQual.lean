/- The place of a quality; whether qualities, and a config, are right. -/
import Derived.Test.YtflapjehkgefdaaGreatJb
namespace Go.Proofs.YtflapjehkgefdaaGreat
open Go.RowKit

theorem is58 (x : ByteArray) (k l m : Int) (g : Nat) (n : ByteArray) (w : World) (hg : w.cell? ⟨g, 0, none⟩ = some (.string n)) :
    Calls Tryz.prog 89 #[.agg #[.string x, .int .i64 k, .int .i64 l, .int .i64 m], ptr g] w fun r w' => r = .returned (.bool (decide (x = n))) ∧ Below w.heap.size w w' := by
  have hlt := World.block_lt_of_cell? w _ hg
  have hg2 := stay (below_lit w (.cells #[.string x, .int .i64 k, .int .i64 l, .int .i64 m] 64)) hg
  by_cases h : x = n
  · have h1 := text_eq h
    go_enter Tryz.func89, Tryz.ntmps89
    go_wp2
    go_ret
    exact ⟨rfl, below_lit _ _⟩
  · have h1 := text_ne h
    go_enter Tryz.func89, Tryz.ntmps89
    go_wp2
    go_ret
    exact ⟨rfl, below_lit _ _⟩

/-- A place, or -1. -/
def plV : Option Nat → Int
  | none => -1
  | some i => (i : Int)

def NoneToQ (L : List Qu) (n : ByteArray) (j : Nat) : Prop := ∀ i, i < j → (quAt L i).1 ≠ n

set_option maxRecDepth 100000 in
set_option maxHeartbeats 400000 in
theorem index57 (a : Option Addr) (k c g : Nat) (L : List Qu) (n : ByteArray) (w : World) (hn : L.length = k) (hl : k ≤ 4611686018427387904) (hat : QAt w a L) (hg : w.cell? ⟨g, 0, none⟩ = some (.string n)) :
    Calls Tryz.prog 39 #[.slice a k c, .func (.func 89) #[] #[ptr g]] w fun e w' => e = .returned (.int .i64 (plV (qi L n))) ∧ Below w.heap.size w w' := by
  replace hn := hid hn
  replace hat := hid hat
  replace hg := hid hg
  go_enter Tryz.func39, Tryz.ntmps39
  go_wp2_with fail
  go_loopw [8] (fun i wr => ∃ j : Nat, j ≤ k ∧ i = .int .i64 (j : Int) ∧ Hid (NoneToQ L n j) ∧ Below w.heap.size w wr) (fun i _ => k - (intOf i).toNat)
  case atStart => exact ⟨0, Nat.zero_le _, rfl, hid (fun i hi => by omega), Below.refl _ _⟩
  case round =>
    obtain ⟨j, hj, rfl, hok, hb⟩ := hrel
    by_cases hlt : j < k
    · have hjL : j < L.length := by rw [hn.out]; exact hlt
      obtain ⟨b, o, e⟩ := hat.out.place (by omega)
      subst e
      obtain ⟨x0, x1, x2, x3⟩ := (hat.out.below hb).one hjL
      have kS := is58 (quAt L j).1 (quAt L j).2.1 (quAt L j).2.2.1 (quAt L j).2.2.2 g n _ (stay hb hg.out)
      by_cases hB : (quAt L j).1 = n
      · have hf := hid ((qi_is L n j).2 ⟨hjL, hB, hok.out⟩)
        rw [decide_eq_true hB] at kS
        replace hB := hid hB
        replace hok := hid hok
        generalize quAt L j = X at *
        obtain ⟨X0, X1, X2, X3⟩ := X
        dsimp only at *
        go_wp2_with fail
        refine kS.mono ?_
        rintro e w1 ⟨rfl, hb1⟩
        have B1 := bnext hb hb1
        go_wp2
        go_ret
        rw [hf.out]
        exact ⟨rfl, B1⟩
      · have hok2 : Hid (NoneToQ L n (j + 1)) := hid fun i hi => by
          rcases Nat.lt_or_ge i j with h | h
          · exact hok.out i h
          · obtain rfl : i = j := by omega
            exact hB
        rw [decide_eq_false hB] at kS
        replace hB := hid hB
        replace hok := hid hok
        generalize quAt L j = X at *
        obtain ⟨X0, X1, X2, X3⟩ := X
        dsimp only at *
        go_wp2_with fail
        refine kS.mono ?_
        rintro e w1 ⟨rfl, hb1⟩
        have B1 := bnext hb hb1
        go_wp2_with fail
        go_roundw
        case rel => exact ⟨j + 1, by omega, by go_num, hok2, B1⟩
        case measure => simp [intOf]; omega
    · have hje : j = k := by omega
      subst hje
      have hf := hid ((qi_no L n).2 (by rw [hn.out]; exact hok.out))
      go_wp2
      go_ret
      rw [hf.out]
      exact ⟨rfl, hb⟩

theorem place_any (a : Option Addr) (k c : Nat) (L : List Qu) (n : ByteArray) (w : World) (hn : L.length = k) (hl : k ≤ 4611686018427387904) (hat : QAt w a L) :
    Calls Tryz.prog 80 #[.slice a k c, .string n] w fun e w' => e = .returned (.int .i64 (plV (qi L n))) ∧ Below w.heap.size w w' := by
  have bl := below_lit w (.cells #[.string n] 9)
  have hc : (w.alloc (.cells #[.string n] 9)).cell? ⟨w.heap.size, 0, none⟩ = some (.string n) := cell_new _ _ _
  have kF := index57 a k c w.heap.size L n _ hn hl (hat.below bl) hc
  generalize plV (qi L n) = r at *
  replace hn := hid hn
  replace hat := hid hat
  replace hc := hid hc
  go_enter Tryz.func80, Tryz.ntmps80
  go_wp2_with fail
  refine kF.mono ?_
  rintro e w1 ⟨rfl, hb1⟩
  have B1 := bnext bl hb1
  go_wp2
  go_ret
  exact ⟨rfl, B1⟩

theorem islim72 (n : Int) (w : World) : Calls Tryz.prog 90 #[.int .i64 n] w fun r w' => r = .returned (.bool (limB n)) ∧ w' = w := by
  by_cases h1 : -1 ≤ n
  · have d1 : decide (-1 ≤ n) = true := by simpa using h1
    by_cases h2 : n ≤ 1073741824
    · have d2 : decide (n ≤ 1073741824) = true := by simpa using h2
      have hf := hid (show limB n = true from decide_eq_true ⟨h1, h2⟩)
      go_enter Tryz.func90, Tryz.ntmps90
      go_wp2
      go_ret
      rw [hf.out]; exact ⟨rfl, rfl⟩
    · have d2 : decide (n ≤ 1073741824) = false := by simpa using h2
      have hf := hid (show limB n = false from decide_eq_false fun h => h2 h.2)
      go_enter Tryz.func90, Tryz.ntmps90
      go_wp2
      go_ret
      rw [hf.out]; exact ⟨rfl, rfl⟩
  · have d1 : decide (-1 ≤ n) = false := by simpa using h1
    have hf := hid (show limB n = false from decide_eq_false fun h => h1 h.1)
    go_enter Tryz.func90, Tryz.ntmps90
    go_wp2
    go_ret
    rw [hf.out]; exact ⟨rfl, rfl⟩

set_option maxRecDepth 100000 in
set_option maxHeartbeats 1000000 in
theorem isqual_any (x : ByteArray) (p l m : Int) (w : World) :
    Calls Tryz.prog 81 #[.agg #[.string x, .int .i64 p, .int .i64 l, .int .i64 m]] w fun r w' => r = .returned (.bool (qualB (x, p, l, m))) ∧ Below w.heap.size w w' := by
  have bl := below_lit w (.cells #[.string x, .int .i64 p, .int .i64 l, .int .i64 m] 64)
  have k1 := name_any x (w.alloc (.cells #[.string x, .int .i64 p, .int .i64 l, .int .i64 m] 64))
  have hcell : ∀ r (hr : r < 4), (w.alloc (.cells #[.string x, .int .i64 p, .int .i64 l, .int .i64 m] 64)).cell? ⟨w.heap.size, r, none⟩ = some ([Value.string x, .int .i64 p, .int .i64 l, .int .i64 m][r]) := fun r hr => by
    obtain ⟨b, o, e, h⟩ := cat_lit w 64 [.string x, .int .i64 p, .int .i64 l, .int .i64 m] _ rfl (by simp)
    cases e
    have := h r hr
    rw [Nat.zero_add] at this
    exact this
  have c1 := hcell 1 (by omega)
  have c2 := hcell 2 (by omega)
  have c3 := hcell 3 (by omega)
  simp only [List.getElem_cons_succ, List.getElem_cons_zero] at c1 c2 c3
  have k2 := fun w => islim72 l w
  have k3 := fun w => islim72 m w
  have hq : qualB (x, p, l, m) = (nameB x && decide (0 ≤ p) && decide (p ≤ 1000) && limB l && limB m) := rfl
  rw [hq]
  clear hq hcell
  generalize nameB x = B1 at *
  generalize limB l = B2 at *
  generalize limB m = B3 at *
  obtain ⟨W0, hW0⟩ : ∃ W0, W0 = w.alloc (.cells #[.string x, .int .i64 p, .int .i64 l, .int .i64 m] 64) := ⟨_, rfl⟩
  rw [← hW0] at bl k1 c1 c2 c3
  have hlt : w.heap.size < W0.heap.size := World.block_lt_of_cell? W0 _ c1
  go_enter Tryz.func81, Tryz.ntmps81
  go_wp2_with fail
  rw [← hW0]
  refine k1.mono ?_
  rintro e w1 ⟨rfl, hb1⟩
  have D1 := bnext bl hb1
  replace c1 := stay hb1 c1
  replace c2 := stay hb1 c2
  replace c3 := stay hb1 c3
  replace hlt := Nat.lt_of_lt_of_le hlt hb1.size
  clear k1 hW0 bl hb1
  cases B1 with
  | false =>
    go_wp2
    go_ret
    exact ⟨rfl, D1⟩
  | true =>
    by_cases hp0 : 0 ≤ p
    · have d0 : decide (0 ≤ p) = true := by simpa using hp0
      by_cases hp1 : p ≤ 1000
      · have d1 : decide (p ≤ 1000) = true := by simpa using hp1
        go_wp2_with fail
        refine (k2 _).mono ?_
        rintro e w2 ⟨rfl, rfl⟩
        cases B2 with
        | false =>
          go_wp2
          go_ret
          exact ⟨ret_bool (by rw [d0, d1]; rfl), D1⟩
        | true =>
          go_wp2_with fail
          refine (k3 _).mono ?_
          rintro e w3 ⟨rfl, rfl⟩
          go_wp2
          go_ret
          refine ⟨ret_bool ?_, D1⟩
          rw [d0, d1]
          cases B3 <;> rfl
      · have d1 : decide (p ≤ 1000) = false := by simpa using hp1
        go_wp2
        go_ret
        exact ⟨ret_bool (by rw [d0, d1]; rfl), D1⟩
    · have d0 : decide (0 ≤ p) = false := by simpa using hp0
      go_wp2
      go_ret
      exact ⟨ret_bool (by rw [d0]; rfl), D1⟩

def QFitTo (L : List Qu) (j : Nat) : Prop := ∀ i, i < j → qi L (quAt L i).1 = some i ∧ qualB (quAt L i) = true
theorem qright_no {L : List Qu} (h : ¬ (1 ≤ L.length ∧ L.length ≤ 8)) : qrightB L = false := decide_eq_false fun h1 => h ⟨h1.1, h1.2.1⟩
theorem qright_bad {L : List Qu} {i : Nat} (hi : i < L.length) (h : ¬ (qi L (quAt L i).1 = some i ∧ qualB (quAt L i) = true)) : qrightB L = false := decide_eq_false fun h1 => h (h1.2.2 i hi)
theorem qright_good {L : List Qu} (h1 : 1 ≤ L.length) (h2 : L.length ≤ 8) (h : QFitTo L L.length) : qrightB L = true := decide_eq_true ⟨h1, h2, h⟩

theorem plV_eq {r : Option Nat} {i : Nat} (h : r = some i) : plV r = (i : Int) := by subst h; rfl
theorem plV_ne {r : Option Nat} {i : Nat} (h : r ≠ some i) : ¬ plV r = (i : Int) := by
  cases r with
  | none => simp only [plV]; omega
  | some k => simp only [plV]; intro e; exact h (by congr 1; omega)

set_option maxRecDepth 100000 in
set_option maxHeartbeats 1000000 in
theorem quals_any (a : Option Addr) (k c : Nat) (L : List Qu) (w : World) (hn : L.length = k) (hat : QAt w a L) :
    Calls Tryz.prog 73 #[.slice a k c] w fun e w' => e = .returned (.bool (qrightB L)) ∧ Below w.heap.size w w' := by
  by_cases h1 : k < 1
  · have hf := hid (qright_no (L := L) (by omega))
    have d1 : decide ((k : Int) < 1) = true := by simp; omega
    replace hn := hid hn
    replace hat := hid hat
    go_enter Tryz.func73, Tryz.ntmps73
    go_wp2
    go_ret
    rw [hf.out]; exact ⟨rfl, Below.refl _ _⟩
  have d1 : decide ((k : Int) < 1) = false := by simp; omega
  by_cases h2 : 8 < k
  · have hf := hid (qright_no (L := L) (by omega))
    have d2 : decide ((8 : Int) < (k : Int)) = true := by simp; omega
    replace hn := hid hn
    replace hat := hid hat
    go_enter Tryz.func73, Tryz.ntmps73
    go_wp2
    go_ret
    rw [hf.out]; exact ⟨rfl, Below.refl _ _⟩
  have d2 : decide ((8 : Int) < (k : Int)) = false := by simp; omega
  obtain ⟨b, o, e⟩ := hat.place (by omega)
  subst e
  replace hn := hid hn
  replace hat := hid hat
  go_enter Tryz.func73, Tryz.ntmps73
  go_wp2_with fail
  go_loopw [15] (fun i wr => ∃ j : Nat, j ≤ k ∧ i = .int .i64 (j : Int) ∧ Hid (QFitTo L j) ∧ Below w.heap.size w wr) (fun i _ => k - (intOf i).toNat)
  case atStart => exact ⟨0, Nat.zero_le _, rfl, hid (fun i hi => by omega), Below.refl _ _⟩
  case round =>
    obtain ⟨j, hj, rfl, hok, hb⟩ := hrel
    by_cases hlt : j < k
    · have hjL : j < L.length := by rw [hn.out]; exact hlt
      obtain ⟨x0, x1, x2, x3⟩ := (hat.out.below hb).one hjL
      have bl := below_lit wr (.cells #[.string (quAt L j).1, .int .i64 (quAt L j).2.1, .int .i64 (quAt L j).2.2.1, .int .i64 (quAt L j).2.2.2] 64)
      have B0 := bnext hb bl
      have kP := place_any (some ⟨b, o, none⟩) k c L (quAt L j).1 _ hn.out (by omega) (hat.out.below B0)
      have kQ := fun w => isqual_any (quAt L j).1 (quAt L j).2.1 (quAt L j).2.2.1 (quAt L j).2.2.2 w
      rw [show ((quAt L j).1, (quAt L j).2.1, (quAt L j).2.2.1, (quAt L j).2.2.2) = quAt L j from rfl] at kQ
      have cells : ∀ r (hr : r < 4), (wr.alloc (.cells #[.string (quAt L j).1, .int .i64 (quAt L j).2.1, .int .i64 (quAt L j).2.2.1, .int .i64 (quAt L j).2.2.2] 64)).cell? ⟨wr.heap.size, r, none⟩ = some ([Value.string (quAt L j).1, .int .i64 (quAt L j).2.1, .int .i64 (quAt L j).2.2.1, .int .i64 (quAt L j).2.2.2][r]) := fun r hr => by
        obtain ⟨b, o, e, h⟩ := cat_lit wr 64 [Value.string (quAt L j).1, .int .i64 (quAt L j).2.1, .int .i64 (quAt L j).2.2.1, .int .i64 (quAt L j).2.2.2] _ rfl (by simp)
        cases e
        have := h r hr
        rw [Nat.zero_add] at this
        exact this
      have c0 := cells 0 (by omega)
      have c1 := cells 1 (by omega)
      have c2 := cells 2 (by omega)
      have c3 := cells 3 (by omega)
      simp only [List.getElem_cons_succ, List.getElem_cons_zero] at c0 c1 c2 c3
      clear cells
      have hyes := hid (fun (h : qi L (quAt L j).1 = some j) (h2 : qualB (quAt L j) = true) => show QFitTo L (j + 1) from fun i hi => by
        rcases Nat.lt_or_ge i j with h3 | h3
        · exact hok.out i h3
        · obtain rfl : i = j := by omega
          exact ⟨h, h2⟩)
      have hno := hid (fun h => qright_bad hjL h)
      by_cases hP : qi L (quAt L j).1 = some j
      · rw [plV_eq hP] at kP
        replace hP := hid hP
        cases hB : qualB (quAt L j)
        · have hf := hid (hno.out fun h => by rw [hB] at h; cases h.2)
          rw [hB] at kQ
          replace hB := hid hB
          generalize quAt L j = X at *
          obtain ⟨X0, X1, X2, X3⟩ := X
          dsimp only at *
          go_wp2_with fail
          refine kP.mono ?_
          rintro e w1 ⟨rfl, hb1⟩
          have B1 := bnext B0 hb1
          replace c0 := stay hb1 c0
          replace c1 := stay hb1 c1
          replace c2 := stay hb1 c2
          replace c3 := stay hb1 c3
          go_wp2_with fail
          refine (kQ _).mono ?_
          rintro e w2 ⟨rfl, hb2⟩
          have B2 := bnext B1 hb2
          go_wp2
          go_ret
          rw [hf.out]; exact ⟨rfl, B2⟩
        · have hok2 := hid (hyes.out hP.out hB)
          rw [hB] at kQ
          replace hB := hid hB
          replace hok := hid hok
          generalize quAt L j = X at *
          obtain ⟨X0, X1, X2, X3⟩ := X
          dsimp only at *
          go_wp2_with fail
          refine kP.mono ?_
          rintro e w1 ⟨rfl, hb1⟩
          have B1 := bnext B0 hb1
          replace c0 := stay hb1 c0
          replace c1 := stay hb1 c1
          replace c2 := stay hb1 c2
          replace c3 := stay hb1 c3
          go_wp2_with fail
          refine (kQ _).mono ?_
          rintro e w2 ⟨rfl, hb2⟩
          have B2 := bnext B1 hb2
          go_wp2_with fail
          go_roundw
          case rel => exact ⟨j + 1, by omega, by go_num, hok2, B2⟩
          case measure => simp [intOf]; omega
      · have e1 := plV_ne hP
        have hf := hid (hno.out fun h => hP h.1)
        generalize plV (qi L (quAt L j).1) = pl at *
        replace hP := hid hP
        generalize quAt L j = X at *
        obtain ⟨X0, X1, X2, X3⟩ := X
        dsimp only at *
        go_wp2_with fail
        refine kP.mono ?_
        rintro e w1 ⟨rfl, hb1⟩
        have B1 := bnext B0 hb1
        replace c0 := stay hb1 c0
        go_wp2
        go_ret
        rw [hf.out]; exact ⟨rfl, B1⟩
    · have hje : j = k := by omega
      subst hje
      have hf := hid (qright_good (L := L) (by have := hn.out; omega) (by have := hn.out; omega) (by rw [hn.out]; exact hok.out))
      go_wp2
      go_ret
      rw [hf.out]; exact ⟨rfl, hb⟩

set_option maxRecDepth 100000 in
theorem conf_any (ca pa aa qa : Option Addr) (cn cc pn pc ak ac qk qc : Nat) (pol : Int) (A : List Acc) (Q : List Qu) (w : World) (hA : A.length = ak) (hac : ak ≤ ac) (hQ : Q.length = qk) (hatA : AAt w aa A) (hatQ : QAt w qa Q) :
    Calls Tryz.prog 55 #[.agg #[.slice ca cn cc, .slice pa pn pc, .slice aa ak ac, .slice qa qk qc, .int .u8 pol]] w fun e w' => e = .returned (.bool (confB A Q)) ∧ Below w.heap.size w w' := by
  have bl := below_lit w (.cells #[.slice ca cn cc, .slice pa pn pc, .slice aa ak ac, .slice qa qk qc, .int .u8 pol] 28)
  have k1 := right_any aa ak ac A _ hA hac (hatA.below bl)
  have k2 := fun w2 (h : Below w.heap.size w w2) => quals_any qa qk qc Q w2 hQ (hatQ.below h)
  have c3 : (w.alloc (.cells #[.slice ca cn cc, .slice pa pn pc, .slice aa ak ac, .slice qa qk qc, .int .u8 pol] 28)).cell? ⟨w.heap.size, 3, none⟩ = some (.slice qa qk qc) := by
    obtain ⟨b, o, e, h⟩ := cat_lit w 28 [.slice ca cn cc, .slice pa pn pc, .slice aa ak ac, .slice qa qk qc, .int .u8 pol] _ rfl (by simp)
    cases e
    exact h 3 (by simp)
  unfold confB
  replace hA := hid hA
  replace hQ := hid hQ
  replace hatA := hid hatA
  replace hatQ := hid hatQ
  generalize rightB A = B1 at *
  generalize qrightB Q = B2 at *
  go_enter Tryz.func55, Tryz.ntmps55
  go_wp2_with fail
  refine k1.mono ?_
  rintro e w1 ⟨rfl, hb1⟩
  have D1 := bnext bl hb1
  replace c3 := stay hb1 c3
  cases B1 with
  | false =>
    go_wp2
    go_ret
    exact ⟨rfl, D1⟩
  | true =>
    go_wp2_with fail
    refine (k2 _ D1).mono ?_
    rintro e w2 ⟨rfl, hb2⟩
    have D2 := bnext D1 hb2
    go_wp2
    go_ret
    refine ⟨ret_bool ?_, D2⟩
    cases B2 <;> rfl

end Go.Proofs.YtflapjehkgefdaaGreat
