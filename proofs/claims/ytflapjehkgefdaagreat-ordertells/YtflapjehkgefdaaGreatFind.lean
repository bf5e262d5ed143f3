/- The place of a name; whether a number is a limit. -/
import Derived.Test.YtflapjehkgefdaaGreatMem
namespace Go.Proofs.YtflapjehkgefdaaGreat
open Go.RowKit

theorem islim_any (n : Int) (w : World) : Calls Tryz.prog 88 #[.int .i64 n] w fun r w' => r = .returned (.bool (limB n)) ∧ w' = w := by
  by_cases h1 : -1 ≤ n
  · have d1 : decide (-1 ≤ n) = true := by simpa using h1
    by_cases h2 : n ≤ 1073741824
    · have d2 : decide (n ≤ 1073741824) = true := by simpa using h2
      have hf := hid (show limB n = true from decide_eq_true ⟨h1, h2⟩)
      go_enter Tryz.func88, Tryz.ntmps88
      go_wp2
      go_ret
      rw [hf.out]; exact ⟨rfl, rfl⟩
    · have d2 : decide (n ≤ 1073741824) = false := by simpa using h2
      have hf := hid (show limB n = false from decide_eq_false fun h => h2 h.2)
      go_enter Tryz.func88, Tryz.ntmps88
      go_wp2
      go_ret
      rw [hf.out]; exact ⟨rfl, rfl⟩
  · have d1 : decide (-1 ≤ n) = false := by simpa using h1
    have hf := hid (show limB n = false from decide_eq_false fun h => h1 h.1)
    go_enter Tryz.func88, Tryz.ntmps88
    go_wp2
    go_ret
    rw [hf.out]; exact ⟨rfl, rfl⟩

theorem is30 (x y : ByteArray) (k : Int) (g : Nat) (n : ByteArray) (w : World) (hg : w.cell? ⟨g, 0, none⟩ = some (.string n)) :
    Calls Tryz.prog 103 #[.agg #[.string x, .string y, .int .i64 k], ptr g] w fun r w' => r = .returned (.bool (decide (x = n))) ∧ Below w.heap.size w w' := by
  have hlt := World.block_lt_of_cell? w _ hg
  have hg2 := stay (below_lit w (.cells #[.string x, .string y, .int .i64 k] 80)) hg
  by_cases h : x = n
  · have h1 := text_eq h
    go_enter Tryz.func103, Tryz.ntmps103
    go_wp2
    go_ret
    exact ⟨rfl, below_lit _ _⟩
  · have h1 := text_ne h
    go_enter Tryz.func103, Tryz.ntmps103
    go_wp2
    go_ret
    exact ⟨rfl, below_lit _ _⟩

/-- What Find answers. -/
def FRet (r : Option Nat) : Ending := match r with
  | none => .returned (.tuple #[.int .i64 0, .bool false])
  | some i => .returned (.tuple #[.int .i64 (i : Int), .bool true])

def NoneTo (L : List Acc) (n : ByteArray) (j : Nat) : Prop := ∀ i, i < j → (accAt L i).1 ≠ n

set_option maxRecDepth 100000 in
set_option maxHeartbeats 400000 in
theorem first_any (a : Option Addr) (k c g : Nat) (L : List Acc) (n : ByteArray) (w : World) (hn : L.length = k) (hl : k ≤ 4611686018427387904) (hat : AAt w a L) (hg : w.cell? ⟨g, 0, none⟩ = some (.string n)) :
    Calls Tryz.prog 102 #[.slice a k c, .func (.func 103) #[] #[ptr g]] w fun e w' => e = FRet (fi L n) ∧ Below w.heap.size w w' := by
  replace hn := hid hn
  replace hat := hid hat
  replace hg := hid hg
  go_enter Tryz.func102, Tryz.ntmps102
  go_wp2_with fail
  go_loopw [10] (fun i wr => ∃ j : Nat, j ≤ k ∧ i = .int .i64 (j : Int) ∧ Hid (NoneTo L n j) ∧ Below w.heap.size w wr) (fun i _ => k - (intOf i).toNat)
  case atStart => exact ⟨0, Nat.zero_le _, rfl, hid (fun i hi => by omega), Below.refl _ _⟩
  case round =>
    obtain ⟨j, hj, rfl, hok, hb⟩ := hrel
    by_cases hlt : j < k
    · have hjL : j < L.length := by rw [hn.out]; exact hlt
      obtain ⟨b, o, e⟩ := hat.out.place (by omega)
      subst e
      obtain ⟨x0, x1, x2⟩ := (hat.out.below hb).one hjL
      have bl := below_lit wr (.cells #[.string (accAt L j).1, .string (accAt L j).2.1, .int .i64 (accAt L j).2.2] 80)
      have kS := is30 (accAt L j).1 (accAt L j).2.1 (accAt L j).2.2 g n _ (stay (bnext hb bl) hg.out)
      by_cases hB : (accAt L j).1 = n
      · have hf := hid ((fi_is L n j).2 ⟨hjL, hB, hok.out⟩)
        rw [decide_eq_true hB] at kS
        replace hB := hid hB
        replace hok := hid hok
        generalize accAt L j = X at *
        obtain ⟨X0, X1, X2⟩ := X
        dsimp only at *
        go_wp2_with fail
        refine kS.mono ?_
        rintro e w1 ⟨rfl, hb1⟩
        have B1 := bnext hb (bnext bl hb1)
        go_wp2
        go_ret2
        rw [hf.out]
        exact ⟨rfl, B1⟩
      · have hok2 : Hid (NoneTo L n (j + 1)) := hid fun i hi => by
          rcases Nat.lt_or_ge i j with h | h
          · exact hok.out i h
          · obtain rfl : i = j := by omega
            exact hB
        rw [decide_eq_false hB] at kS
        replace hB := hid hB
        replace hok := hid hok
        generalize accAt L j = X at *
        obtain ⟨X0, X1, X2⟩ := X
        dsimp only at *
        go_wp2_with fail
        refine kS.mono ?_
        rintro e w1 ⟨rfl, hb1⟩
        have B1 := bnext hb (bnext bl hb1)
        go_wp2_with fail
        go_roundw
        case rel => exact ⟨j + 1, by omega, by go_num, hok2, B1⟩
        case measure => simp [intOf]; omega
    · have hje : j = k := by omega
      subst hje
      have hf := hid ((fi_no L n).2 (by rw [hn.out]; exact hok.out))
      go_wp2
      go_ret2
      rw [hf.out]
      exact ⟨rfl, hb⟩

theorem find_any (a : Option Addr) (k c : Nat) (L : List Acc) (n : ByteArray) (w : World) (hn : L.length = k) (hl : k ≤ 4611686018427387904) (hat : AAt w a L) :
    Calls Tryz.prog 87 #[.slice a k c, .string n] w fun e w' => e = FRet (fi L n) ∧ Below w.heap.size w w' := by
  have bl := below_lit w (.cells #[.string n] 9)
  have hc : (w.alloc (.cells #[.string n] 9)).cell? ⟨w.heap.size, 0, none⟩ = some (.string n) := cell_new _ _ _
  have kF := first_any a k c w.heap.size L n _ hn hl (hat.below bl) hc
  generalize fi L n = r at *
  replace hn := hid hn
  replace hat := hid hat
  replace hc := hid hc
  go_enter Tryz.func87, Tryz.ntmps87
  go_wp2_with fail
  refine kF.mono ?_
  rintro e w1 ⟨rfl, hb1⟩
  have B1 := bnext bl hb1
  cases r with
  | none =>
    simp only [FRet]
    go_wp2
    go_ret2
    exact ⟨rfl, B1⟩
  | some i =>
    simp only [FRet]
    go_wp2
    go_ret2
    exact ⟨rfl, B1⟩

end Go.Proofs.YtflapjehkgefdaaGreat
