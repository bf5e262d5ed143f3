/- The place of a partition; who is admitted. -/
import Derived.Test.YtjfgpepecjkdnaaQual
import Derived.Test.YtjfgpepecjkdnaaCp2
namespace Go.Proofs.Ytjfgpepecjkdnaa
open Go.RowKit

def pi (L : List Prt) (n : ByteArray) : Option Nat := ki (·.name) L n
theorem pi_is (L : List Prt) (n : ByteArray) (i : Nat) : pi L n = some i ↔ i < L.length ∧ (prtAt L i).name = n ∧ ∀ j, j < i → (prtAt L j).name ≠ n := ki_is _ prt0 L n i
theorem pi_no (L : List Prt) (n : ByteArray) : pi L n = none ↔ ∀ j, j < L.length → (prtAt L j).name ≠ n := ki_no _ prt0 L n
theorem pi_lt {L : List Prt} {n : ByteArray} {i : Nat} (h : pi L n = some i) : i < L.length := ((pi_is L n i).1 h).1
theorem pi_name {L : List Prt} {n : ByteArray} {i : Nat} (h : pi L n = some i) : (prtAt L i).name = n := ((pi_is L n i).1 h).2.1

theorem PtAt.one {w : World} {b o : Nat} {C : List Prt} (h : PtAt w (some ⟨b, o, none⟩) C) {i : Nat} (hi : i < C.length) :
    w.cell? ⟨b, o + i * 5, none⟩ = some (.string (prtAt C i).name) ∧ w.cell? ⟨b, o + i * 5 + 1, none⟩ = some (.int .u32 (prtAt C i).nodes) ∧ w.cell? ⟨b, o + i * 5 + 2, none⟩ = some (.int .i64 (prtAt C i).prio) ∧ w.cell? ⟨b, o + i * 5 + 3, none⟩ = some (.int .i64 (prtAt C i).most) ∧ w.cell? ⟨b, o + i * 5 + 4, none⟩ = some (.slice (prtAt C i).da (prtAt C i).dn (prtAt C i).dc) := by
  have k := fun r hr => flat_cell pc5 5 pc5_len (by omega) h hi r hr
  have k0 := k 0 (by omega)
  have k1 := k 1 (by omega)
  have k2 := k 2 (by omega)
  have k3 := k 3 (by omega)
  have k4 := k 4 (by omega)
  rw [prtAt_eq hi] at k0 k1 k2 k3 k4
  exact ⟨k0, k1, k2, k3, k4⟩

theorem is26 (x : ByteArray) (s k l : Int) (da : Option Addr) (dn dc g : Nat) (n : ByteArray) (w : World) (hg : w.cell? ⟨g, 0, none⟩ = some (.string n)) :
    Calls Try.prog 60 #[.agg #[.string x, .int .u32 s, .int .i64 k, .int .i64 l, .slice da dn dc], ptr g] w fun r w' => r = .returned (.bool (decide (x = n))) ∧ Below w.heap.size w w' := by
  have hlt := World.block_lt_of_cell? w _ hg
  have hg2 := stay (below_lit w (.cells #[.string x, .int .u32 s, .int .i64 k, .int .i64 l, .slice da dn dc] 76)) hg
  by_cases h : x = n
  · have h1 := text_eq h
    go_enter Try.func60, Try.ntmps60
    go_wp2
    go_ret
    exact ⟨rfl, below_lit _ _⟩
  · have h1 := text_ne h
    go_enter Try.func60, Try.ntmps60
    go_wp2
    go_ret
    exact ⟨rfl, below_lit _ _⟩

def NoneToP (L : List Prt) (n : ByteArray) (j : Nat) : Prop := ∀ i, i < j → (prtAt L i).name ≠ n

set_option maxRecDepth 100000 in
set_option maxHeartbeats 400000 in
theorem index25 (a : Option Addr) (k c g : Nat) (L : List Prt) (n : ByteArray) (w : World) (hn : L.length = k) (hl : k ≤ 4611686018427387904) (hat : PtAt w a L) (hg : w.cell? ⟨g, 0, none⟩ = some (.string n)) :
    Calls Try.prog 59 #[.slice a k c, .func (.func 60) #[] #[ptr g]] w fun e w' => e = .returned (.int .i64 (plV (pi L n))) ∧ Below w.heap.size w w' := by
  replace hn := hid hn
  replace hat := hid hat
  replace hg := hid hg
  go_enter Try.func59, Try.ntmps59
  go_wp2_with fail
  go_loopw [8] (fun i wr => ∃ j : Nat, j ≤ k ∧ i = .int .i64 (j : Int) ∧ Hid (NoneToP L n j) ∧ Below w.heap.size w wr) (fun i _ => k - (intOf i).toNat)
  case atStart => exact ⟨0, Nat.zero_le _, rfl, hid (fun i hi => by omega), Below.refl _ _⟩
  case round =>
    obtain ⟨j, hj, rfl, hok, hb⟩ := hrel
    by_cases hlt : j < k
    · have hjL : j < L.length := by rw [hn.out]; exact hlt
      obtain ⟨b, o, e⟩ := hat.out.place (by omega)
      subst e
      obtain ⟨x0, x1, x2, x3, x4⟩ := (hat.out.below hb).one hjL
      have kS := is26 (prtAt L j).name (prtAt L j).nodes (prtAt L j).prio (prtAt L j).most (prtAt L j).da (prtAt L j).dn (prtAt L j).dc g n _ (stay hb hg.out)
      by_cases hB : (prtAt L j).name = n
      · have hf := hid ((pi_is L n j).2 ⟨hjL, hB, hok.out⟩)
        rw [decide_eq_true hB] at kS
        replace hB := hid hB
        replace hok := hid hok
        generalize prtAt L j = X at *
        obtain ⟨X0, X1, X2, X3, X4, X5, X6⟩ := X
        dsimp only at *
        go_wp2_with fail
        refine kS.mono ?_
        rintro e w1 ⟨rfl, hb1⟩
        have B1 := bnext hb hb1
        go_wp2
        go_ret
        rw [hf.out]
        exact ⟨rfl, B1⟩
      · have hok2 : Hid (NoneToP L n (j + 1)) := hid fun i hi => by
          rcases Nat.lt_or_ge i j with h | h
          · exact hok.out i h
          · obtain rfl : i = j := by omega
            exact hB
        rw [decide_eq_false hB] at kS
        replace hB := hid hB
        replace hok := hid hok
        generalize prtAt L j = X at *
        obtain ⟨X0, X1, X2, X3, X4, X5, X6⟩ := X
        dsimp only at *
        go_wp2_with fail
        refine kS.mono ?_
        rintro e w1 ⟨rfl, hb1⟩
        have B1 := bnext hb hb1
        go_wp2_with fail
        go_roundw
        case rel => exact ⟨j + 1, by omega, by go_num, hok2, B1⟩
        case measure => simp [intOf]; omega
    · have hje : j = k := by omega
      subst hje
      have hf := hid ((pi_no L n).2 (by rw [hn.out]; exact hok.out))
      go_wp2
      go_ret
      rw [hf.out]
      exact ⟨rfl, hb⟩

theorem pfind_any (a : Option Addr) (k c : Nat) (L : List Prt) (n : ByteArray) (w : World) (hn : L.length = k) (hl : k ≤ 4611686018427387904) (hat : PtAt w a L) :
    Calls Try.prog 42 #[.slice a k c, .string n] w fun e w' => e = FRet (pi L n) ∧ Below w.heap.size w w' := by
  have bl := below_lit w (.cells #[.string n] 9)
  have hc : (w.alloc (.cells #[.string n] 9)).cell? ⟨w.heap.size, 0, none⟩ = some (.string n) := cell_new _ _ _
  have kF := index25 a k c w.heap.size L n _ hn hl (hat.below bl) hc
  replace hn := hid hn
  replace hat := hid hat
  replace hc := hid hc
  cases hr : pi L n with
  | none =>
    rw [hr] at kF
    simp only [plV] at kF
    go_enter Try.func42, Try.ntmps42
    go_wp2_with fail
    refine kF.mono ?_
    rintro e w1 ⟨rfl, hb1⟩
    have B1 := bnext bl hb1
    go_wp2
    go_ret2
    exact ⟨rfl, B1⟩
  | some i =>
    rw [hr] at kF
    simp only [plV] at kF
    have hi0 : ¬ ((i : Int) < 0) := by omega
    go_enter Try.func42, Try.ntmps42
    go_wp2_with fail
    refine kF.mono ?_
    rintro e w1 ⟨rfl, hb1⟩
    have B1 := bnext bl hb1
    go_wp2
    go_ret2
    exact ⟨rfl, B1⟩

/-- Who are admitted: the list of names has one that is on the path. -/
def anyB (P T : List ByteArray) : Bool := T.any fun x => hasB P x
def admB (A : List Acc) (T : List ByteArray) (n : ByteArray) : Bool := decide (errP A n = 0) && (decide (T.length = 0) || anyB (pathP A n) T)

theorem is47 (x : ByteArray) (g : Nat) (pa : Option Addr) (pk pc : Nat) (P : List ByteArray) (w : World) (hP : P.length = pk) (hl : pk ≤ 4611686018427387904) (hg : w.cell? ⟨g, 0, none⟩ = some (.slice pa pk pc)) (hat : TAt w pa P) :
    Calls Try.prog 52 #[.string x, ptr g] w fun r w' => r = .returned (.bool (hasB P x)) ∧ w' = w := by
  have kC := contains_any pa pk pc P x w hP hl hat
  have hlt := World.block_lt_of_cell? w _ hg
  replace hP := hid hP
  replace hat := hid hat
  generalize hasB P x = B at *
  go_enter Try.func52, Try.ntmps52
  go_wp2_with fail
  refine kC.mono ?_
  rintro e w1 ⟨rfl, rfl⟩
  go_wp2
  go_ret
  exact ⟨rfl, rfl⟩

def NotAny (P T : List ByteArray) (j : Nat) : Prop := ∀ i, i < j → hasB P (txAt T i) = false
theorem any_at {P T : List ByteArray} {j : Nat} (hj : j < T.length) (h : hasB P (txAt T j) = true) : anyB P T = true := by
  unfold anyB; rw [List.any_eq_true]; exact ⟨T[j], List.getElem_mem hj, by rw [txAt_eq hj]; exact h⟩
theorem NotAny.all {P T : List ByteArray} (h : NotAny P T T.length) : anyB P T = false := by
  unfold anyB
  rw [Bool.eq_false_iff]
  intro h1
  obtain ⟨x, hx, h2⟩ := List.any_eq_true.1 h1
  obtain ⟨i, hi, rfl⟩ := List.getElem_of_mem hx
  rw [txAt_eq hi, h i hi] at h2
  cases h2

set_option maxRecDepth 100000 in
set_option maxHeartbeats 400000 in
theorem index73 (a : Option Addr) (k c g : Nat) (T P : List ByteArray) (pa : Option Addr) (pk pc : Nat) (w : World) (hn : T.length = k) (hl : k ≤ 4611686018427387904) (hat : TAt w a T) (hP : P.length = pk) (hpl : pk ≤ 4611686018427387904) (hg : w.cell? ⟨g, 0, none⟩ = some (.slice pa pk pc)) (hpat : TAt w pa P) :
    Calls Try.prog 69 #[.slice a k c, .func (.func 52) #[] #[ptr g]] w fun e w' => ∃ r : Int, e = .returned (.int .i64 r) ∧ decide (0 ≤ r) = anyB P T ∧ w' = w := by
  have kS := fun x => is47 x g pa pk pc P w hP hpl hg hpat
  replace hn := hid hn
  replace hP := hid hP
  replace hat := hid hat
  replace hpat := hid hpat
  replace hg := hid hg
  go_enter Try.func69, Try.ntmps69
  go_wp2_with fail
  go_loopw [8] (fun i wr => ∃ j : Nat, j ≤ k ∧ i = .int .i64 (j : Int) ∧ Hid (NotAny P T j) ∧ wr = w) (fun i _ => k - (intOf i).toNat)
  case atStart => exact ⟨0, Nat.zero_le _, rfl, hid (fun i hi => by omega), rfl⟩
  case round =>
    obtain ⟨j, hj, rfl, hok, rfl⟩ := hrel
    by_cases hlt : j < k
    · have hjT : j < T.length := by rw [hn.out]; exact hlt
      obtain ⟨b, o, e⟩ := hat.out.place (by omega)
      subst e
      have x0 := hat.out.one hjT
      replace kS := kS (txAt T j)
      by_cases hB : hasB P (txAt T j) = true
      · have hf := hid (any_at hjT hB)
        rw [hB] at kS
        replace hB := hid hB
        generalize txAt T j = X at *
        go_wp2_with fail
        refine kS.mono ?_
        rintro e w1 ⟨rfl, rfl⟩
        go_wp2
        go_ret
        exact ⟨_, rfl, by rw [hf.out]; exact decide_eq_true (by omega), rfl⟩
      · replace hB : hasB P (txAt T j) = false := by simpa using hB
        have hok2 : Hid (NotAny P T (j + 1)) := hid fun i hi => by
          rcases Nat.lt_or_ge i j with h | h
          · exact hok.out i h
          · obtain rfl : i = j := by omega
            exact hB
        rw [hB] at kS
        replace hB := hid hB
        replace hok := hid hok
        generalize txAt T j = X at *
        go_wp2_with fail
        refine kS.mono ?_
        rintro e w1 ⟨rfl, rfl⟩
        go_wp2_with fail
        go_roundw
        case rel => exact ⟨j + 1, by omega, by go_num, hok2, trivial⟩
        case measure => simp [intOf]; omega
    · have hje : j = k := by omega
      subst hje
      have hf := hid (NotAny.all (P := P) (T := T) (by rw [hn.out]; exact hok.out))
      go_wp2
      go_ret
      exact ⟨_, rfl, by rw [hf.out]; rfl, rfl⟩

theorem contf46 (a : Option Addr) (k c g : Nat) (T P : List ByteArray) (pa : Option Addr) (pk pc : Nat) (w : World) (hn : T.length = k) (hl : k ≤ 4611686018427387904) (hat : TAt w a T) (hP : P.length = pk) (hpl : pk ≤ 4611686018427387904) (hg : w.cell? ⟨g, 0, none⟩ = some (.slice pa pk pc)) (hpat : TAt w pa P) :
    Calls Try.prog 51 #[.slice a k c, .func (.func 52) #[] #[ptr g]] w fun e w' => e = .returned (.bool (anyB P T)) ∧ w' = w := by
  have kI := index73 a k c g T P pa pk pc w hn hl hat hP hpl hg hpat
  generalize anyB P T = B at *
  replace hat := hid hat
  replace hn := hid hn
  replace hP := hid hP
  replace hpat := hid hpat
  replace hg := hid hg
  go_enter Try.func51, Try.ntmps51
  go_wp2_with fail
  refine kI.mono ?_
  rintro e w1 ⟨r, rfl, hk, rfl⟩
  replace hk := hid hk
  go_wp2
  go_ret
  refine ⟨ret_bool ?_, rfl⟩
  rw [← hk.out]

set_option maxRecDepth 100000 in
set_option maxHeartbeats 1000000 in
theorem admits_any (aa : Option Addr) (ak az : Nat) (A : List Acc) (ta : Option Addr) (tk tc : Nat) (T : List ByteArray) (n : ByteArray) (w : World) (hA : A.length = ak) (hal : ak ≤ 4611686018427387904) (hac : ak ≤ az) (hat : AAt w aa A) (hT : T.length = tk) (htl : tk ≤ 4611686018427387904) (htat : TAt w ta T) :
    Calls Try.prog 33 #[.slice aa ak az, .slice ta tk tc, .string n] w fun e w' => e = .returned (.bool (admB A T n)) ∧ Below w.heap.size w w' := by
  have kP := pathf_any aa ak az A n w hA hal hac hat
  have hpl : (pathP A n).length ≤ 4611686018427387904 := by
    cases hf : fi A n with
    | none => rw [path_no hf]; simp
    | some i => have := path_len hf; have := fi_lt hf; omega
  replace hA := hid hA
  replace hat := hid hat
  by_cases h0 : errP A n = 0
  · rw [if_pos h0, h0] at kP
    have hf : admB A T n = (decide (tk = 0) || anyB (pathP A n) T) := by unfold admB; rw [h0, hT]; rfl
    replace h0 := hid h0
    by_cases ht0 : tk = 0
    · have hf2 := hid (show admB A T n = true by rw [hf, decide_eq_true ht0]; rfl)
      clear hf
      subst ht0
      replace hT := hid hT
      replace htat := hid htat
      go_enter Try.func33, Try.ntmps33
      go_wp2_with fail
      refine kP.mono ?_
      rintro e w1 ⟨ra, rc, rfl, hrc, hown, hb1⟩
      go_wp2
      go_ret
      exact ⟨ret_bool hf2.out.symm, bnext hb1 (below_lit _ _)⟩
    · have hd : decide (tk = 0) = false := decide_eq_false ht0
      have hf2 := hid (show admB A T n = anyB (pathP A n) T by rw [hf, hd]; rfl)
      clear hf
      have htn : ¬ ((tk : Int) = 0) := by omega
      replace hT := hid hT
      replace htat := hid htat
      generalize hPe : pathP A n = P at *
      replace hPe := hid hPe
      go_enter Try.func33, Try.ntmps33
      go_wp2_with fail
      refine kP.mono ?_
      rintro e w1 ⟨ra, rc, rfl, hrc, hown, hb1⟩
      have bl := below_lit w1 (.cells #[.slice ra P.length rc] 36)
      have B1 := bnext hb1 bl
      have hc := cell_new w1 (.slice ra P.length rc) 36
      have kC := contf46 ta tk tc w1.heap.size T P ra P.length rc _ hT.out htl (htat.out.below B1) rfl hpl hc (hown.tat.below bl)
      generalize anyB P T = B at *
      generalize hpk : P.length = pk at *
      replace hpk := hid hpk
      replace hown := hid hown
      replace hc := hid hc
      go_wp2_with fail
      refine kC.mono ?_
      rintro e w2 ⟨rfl, rfl⟩
      go_wp2
      go_ret
      exact ⟨ret_bool (by rw [hf2.out, beq_eq_false_iff_ne.2 htn]; rfl), B1⟩
  · rw [if_neg h0] at kP
    have hf2 := hid (show admB A T n = false by unfold admB; rw [decide_eq_false h0]; rfl)
    generalize errP A n = E at *
    replace hT := hid hT
    replace htat := hid htat
    go_enter Try.func33, Try.ntmps33
    go_wp2_with fail
    refine kP.mono ?_
    rintro e w1 ⟨ra, rc, rfl, hrc, hown, hb1⟩
    go_wp2
    go_ret
    exact ⟨ret_bool hf2.out.symm, bnext hb1 (below_lit _ _)⟩

end Go.Proofs.Ytjfgpepecjkdnaa
