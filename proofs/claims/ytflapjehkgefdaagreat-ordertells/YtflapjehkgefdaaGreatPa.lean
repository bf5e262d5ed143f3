/- The place of a partition; who is admitted. -/
import Derived.Test.YtflapjehkgefdaaGreatQual
import Derived.Test.YtflapjehkgefdaaGreatCp2
namespace Go.Proofs.YtflapjehkgefdaaGreat
open Go.RowKit

def pi (L : List Prt) (n : ByteArray) : Option Nat := ki (·.name) L n
theorem pi_is (L : List Prt) (n : ByteArray) (i : Nat) : pi L n = some i ↔ i < L.length ∧ (prtAt L i).name = n ∧ ∀ j, j < i → (prtAt L j).name ≠ n := ki_is _ prt0 L n i
theorem pi_no (L : List Prt) (n : ByteArray) : pi L n = none ↔ ∀ j, j < L.length → (prtAt L j).name ≠ n := ki_no _ prt0 L n
theorem pi_lt {L : List Prt} {n : ByteArray} {i : Nat} (h : pi L n = some i) : i < L.length := ((pi_is L n i).1 h).1
theorem pi_name {L : List Prt} {n : ByteArray} {i : Nat} (h : pi L n = some i) : (prtAt L i).name = n := ((pi_is L n i).1 h).2.1

theorem PtAt.one {w : World} {b o : Nat} {C : List Prt} (h : PtAt w (some ⟨b, o, none⟩) C) {i : Nat} (hi : i < C.length) :
    w.cell? ⟨b, o + i * 5, none⟩ = some (.string (prtAt C i).name) ∧ w.cell? ⟨b, o + i * 5 + 1, none⟩ = some (.int .u32 (prtAt C i).nodes) ∧ w.cell? ⟨b, o + i * 5 + 2, none⟩ = some (.int .i64 (prtAt C i).prio) ∧ w.cell? ⟨b, o + i * 5 + 3, none⟩ = some (.int .i64 (prtAt C i).most) ∧ w.cell? ⟨b, o + i * 5 + 4, none⟩ = some (.slice (prtAt C i).da (prtAt C i).dn (prtAt C i).dc) := by
  have k := fun r hr => flat_cell pc5 5 pc5_len (by omega) h hi r hr
  have k0 := k 0 (by omega)
  have k1 := k 1 (by omega)
  have k2 := k 2 (by omega)
  have k3 := k 3 (by omega)
  have k4 := k 4 (by omega)
  rw [prtAt_eq hi] at k0 k1 k2 k3 k4
  exact ⟨k0, k1, k2, k3, k4⟩

theorem is26 (x : ByteArray) (s k l : Int) (da : Option Addr) (dn dc g : Nat) (n : ByteArray) (w : World) (hg : w.cell? ⟨g, 0, none⟩ = some (.string n)) :
    Calls Tryz.prog 60 #[.agg #[.string x, .int .u32 s, .int .i64 k, .int .i64 l, .slice da dn dc], ptr g] w fun r w' => r = .returned (.bool (decide (x = n))) ∧ Below w.heap.size w w' := by
  have hlt := World.block_lt_of_cell? w _ hg
  have hg2 := stay (below_lit w (.cells #[.string x, .int .u32 s, .int .i64 k, .int .i64 l, .slice da dn dc] 67)) hg
  by_cases h : x = n
  · have h1 := text_eq h
    go_enter Tryz.func60, Tryz.ntmps60
    go_wp2
    go_ret
    exact ⟨rfl, below_lit _ _⟩
  · have h1 := text_ne h
    go_enter Tryz.func60, Tryz.ntmps60
    go_wp2
    go_ret
    exact ⟨rfl, below_lit _ _⟩

def NoneToP (L : List Prt) (n : ByteArray) (j : Nat) : Prop := ∀ i, i < j → (prtAt L i).name ≠ n

set_option maxRecDepth 100000 in
set_option maxHeartbeats 400000 in
theorem index25 (a : Option Addr) (k c g : Nat) (L : List Prt) (n : ByteArray) (w : World) (hn : L.length = k) (hl : k ≤ 4611686018427387904) (hat : PtAt w a L) (hg : w.cell? ⟨g, 0, none⟩ = some (.string n)) :
    Calls Tryz.prog 59 #[.slice a k c, .func (.func 60) #[] #[ptr g]] w fun e w' => e = .returned (.int .i64 (plV (pi L n))) ∧ Below w.heap.size w w' := by
  replace hn := hid hn
  replace hat := hid hat
  replace hg := hid hg
  go_enter Tryz.func59, Tryz.ntmps59
  go_wp2_with fail
  go_loopw [8] (fun i wr => ∃ j : Nat, j ≤ k ∧ i = .int .i64 (j : Int) ∧ Hid (NoneToP L n j) ∧ Below w.heap.size w wr) (fun i _ => k - (intOf i).toNat)
  case atStart => exact ⟨0, Nat.zero_le _, rfl, hid (fun i hi => by omega), Below.refl _ _⟩
  case round =>
    obtain ⟨j, hj, rfl, hok, hb⟩ := hrel
    by_cases hlt : j < k
    · have hjL : j < L.length := by rw [hn.out]; exact hlt
      obtain ⟨b, o, e⟩ := hat.out.place (by omega)
      subst e
      obtain ⟨x0, x1, x2, x3, x4⟩ := (hat.out.below hb).one hjL
      have kS := is26 (prtAt L j).name (prtAt L j).nodes (prtAt L j).prio (prtAt L j).most (prtAt L j).da (prtAt L j).dn (prtAt L j).dc g n _ (stay hb hg.out)
      by_cases hB : (prtAt L j).name = n
      · have hf := hid ((pi_is L n j).2 ⟨hjL, hB, hok.out⟩)
        rw [decide_eq_true hB] at kS
        replace hB := hid hB
        replace hok := hid hok
        generalize prtAt L j = X at *
        obtain ⟨X0, X1, X2, X3, X4, X5, X6⟩ := X
        dsimp only at *
        go_wp2_with fail
        refine kS.mono ?_
        rintro e w1 ⟨rfl, hb1⟩
        have B1 := bnext hb hb1
        go_wp2
        go_ret
        rw [hf.out]
        exact ⟨rfl, B1⟩
      · have hok2 : Hid (NoneToP L n (j + 1)) := hid fun i hi => by
          rcases Nat.lt_or_ge i j with h | h
          · exact hok.out i h
          · obtain rfl : i = j := by omega
            exact hB
        rw [decide_eq_false hB] at kS
        replace hB := hid hB
        replace hok := hid hok
        generalize prtAt L j = X at *
        obtain ⟨X0, X1, X2, X3, X4, X5, X6⟩ := X
        dsimp only at *
        go_wp2_with fail
        refine kS.mono ?_
        rintro e w1 ⟨rfl, hb1⟩
        have B1 := bnext hb hb1
        go_wp2_with fail
        go_roundw
        case rel => exact ⟨j + 1, by omega, by go_num, hok2, B1⟩
        case measure => simp [intOf]; omega
    · have hje : j = k := by omega
      subst hje
      have hf := hid ((pi_no L n).2 (by rw [hn.out]; exact hok.out))
      go_wp2
      go_ret
      rw [hf.out]
      exact ⟨rfl, hb⟩

theorem pfind_any (a : Option Addr) (k c : Nat) (L : List Prt) (n : ByteArray) (w : World) (hn : L.length = k) (hl : k ≤ 4611686018427387904) (hat : PtAt w a L) :
    Calls Tryz.prog 38 #[.slice a k c, .string n] w fun e w' => e = FRet (pi L n) ∧ Below w.heap.size w w' := by
  have bl := below_lit w (.cells #[.string n] 9)
  have hc : (w.alloc (.cells #[.string n] 9)).cell? ⟨w.heap.size, 0, none⟩ = some (.string n) := cell_new _ _ _
  have kF := index25 a k c w.heap.size L n _ hn hl (hat.below bl) hc
  replace hn := hid hn
  replace hat := hid hat
  replace hc := hid hc
  cases hr : pi L n with
  | none =>
    rw [hr] at kF
    simp only [plV] at kF
    go_enter Tryz.func38, Tryz.ntmps38
    go_wp2_with fail
    refine kF.mono ?_
    rintro e w1 ⟨rfl, hb1⟩
    have B1 := bnext bl hb1
    go_wp2
    go_ret2
    exact ⟨rfl, B1⟩
  | some i =>
    rw [hr] at kF
    simp only [plV] at kF
    have hi0 : ¬ ((i : Int) < 0) := by omega
    go_enter Tryz.func38, Tryz.ntmps38
    go_wp2_with fail
    refine kF.mono ?_
    rintro e w1 ⟨rfl, hb1⟩
    have B1 := bnext bl hb1
    go_wp2
    go_ret2
    exact ⟨rfl, B1⟩

/-- Who are admitted: the list of names has one that is on the path. -/
def anyB (P T : List ByteArray) : Bool := T.any fun x => hasB P x
def admB (A : List Acc) (T : List ByteArray) (n : ByteArray) : Bool := decide (errP A n = 0) && (decide (T.length = 0) || anyB (pathP A n) T)

def NotAny (P T : List ByteArray) (j : Nat) : Prop := ∀ i, i < j → hasB P (txAt T i) = false
theorem any_at {P T : List ByteArray} {j : Nat} (hj : j < T.length) (h : hasB P (txAt T j) = true) : anyB P T = true := by
  unfold anyB; rw [List.any_eq_true]; exact ⟨T[j], List.getElem_mem hj, by rw [txAt_eq hj]; exact h⟩
theorem NotAny.all {P T : List ByteArray} (h : NotAny P T T.length) : anyB P T = false := by
  unfold anyB
  rw [Bool.eq_false_iff]
  intro h1
  obtain ⟨x, hx, h2⟩ := List.any_eq_true.1 h1
  obtain ⟨i, hi, rfl⟩ := List.getElem_of_mem hx
  rw [txAt_eq hi, h i hi] at h2
  cases h2

end Go.Proofs.YtflapjehkgefdaaGreat
