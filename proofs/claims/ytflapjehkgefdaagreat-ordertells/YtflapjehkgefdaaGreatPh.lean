/- The document's Find, Listed, Admits. -/
import Derived.Test.YtflapjehkgefdaaGreatPd
import Derived.Test.YtflapjehkgefdaaGreatRef4
namespace Go.Proofs.YtflapjehkgefdaaGreat
open Go.RowKit

set_option maxRecDepth 100000 in
theorem rpfind_any (a : Option Addr) (k c : Nat) (L : List Prt) (n : ByteArray) (w : World) (hn : L.length = k) (hl : k ≤ 4611686018427387904) (hat : PtAt w a L) :
    Calls Tryz.prog 26 #[.slice a k c, .string n] w fun e w' => e = FRet (pi L n) ∧ w' = w := by
  replace hn := hid hn
  replace hat := hid hat
  go_enter Tryz.func26, Tryz.ntmps26
  go_wp2_with fail
  go_loopw [6] (fun i wr => ∃ j : Nat, j ≤ k ∧ i = .int .i64 (j : Int) ∧ Hid (NoneToP L n j) ∧ wr = w) (fun i _ => k - (intOf i).toNat)
  case atStart => exact ⟨0, Nat.zero_le _, rfl, hid (fun i hi => by omega), rfl⟩
  case round =>
    obtain ⟨j, hj, rfl, hok, rfl⟩ := hrel
    by_cases hlt : j < k
    · have hjL : j < L.length := by rw [hn.out]; exact hlt
      obtain ⟨b, o, e⟩ := hat.out.place (by omega)
      subst e
      obtain ⟨x0, x1, x2, x3, x4⟩ := hat.out.one hjL
      by_cases hB : (prtAt L j).name = n
      · have hf := hid ((pi_is L n j).2 ⟨hjL, hB, hok.out⟩)
        have he := text_eq hB
        replace hB := hid hB
        replace hok := hid hok
        generalize prtAt L j = X at *
        obtain ⟨X0, X1, X2, X3, X4, X5, X6⟩ := X
        dsimp only at *
        go_wp2
        go_ret2
        rw [hf.out]
        exact ⟨rfl, rfl⟩
      · have hok2 : Hid (NoneToP L n (j + 1)) := hid fun i hi => by
          rcases Nat.lt_or_ge i j with h | h
          · exact hok.out i h
          · obtain rfl : i = j := by omega
            exact hB
        have he := text_ne hB
        replace hB := hid hB
        replace hok := hid hok
        generalize prtAt L j = X at *
        obtain ⟨X0, X1, X2, X3, X4, X5, X6⟩ := X
        dsimp only at *
        go_wp2_with fail
        go_roundw
        case rel => exact ⟨j + 1, by omega, by go_num, hok2, trivial⟩
        case measure => simp [intOf]; omega
    · have hje : j = k := by omega
      subst hje
      have hf := hid ((pi_no L n).2 (by rw [hn.out]; exact hok.out))
      go_wp2
      go_ret2
      rw [hf.out]
      exact ⟨rfl, rfl⟩

theorem tx_take {T : List ByteArray} {i k : Nat} (h : i < k) : txAt (T.take k) i = txAt T i := by
  simp only [txAt, List.getD_eq_getElem?_getD, List.getElem?_take, if_pos h]

theorem ti_ahead {T : List ByteArray} {i : Nat} (hi : i < T.length) : ti T (txAt T i) = some i ↔ hasB (T.take i) (txAt T i) = false := by
  rw [ti_is, has_no]
  constructor
  · rintro ⟨_, _, h⟩ hm
    obtain ⟨j, hj, e⟩ := List.getElem_of_mem hm
    have hji : j < i := by rw [List.length_take] at hj; omega
    refine h j hji ?_
    rw [← e, txAt_eq hj, tx_take hji]
  · intro h
    refine ⟨hi, rfl, fun j hj e => h ?_⟩
    rw [← e, ← tx_take hj]
    have hjl : j < (T.take i).length := by rw [List.length_take]; omega
    rw [← txAt_eq hjl]
    exact List.getElem_mem hjl

theorem user_all {A : List Acc} {T : List ByteArray} (h : UserTo A T T.length) : userB A T = decide (T.length ≤ 8) := by
  unfold userB
  by_cases h8 : T.length ≤ 8
  · rw [decide_eq_true h8]; exact decide_eq_true ⟨h8, h⟩
  · rw [decide_eq_false h8]; exact decide_eq_false fun h1 => h8 h1.1

set_option maxRecDepth 100000 in
set_option maxHeartbeats 1000000 in
theorem listed_any (aa : Option Addr) (ak az : Nat) (A : List Acc) (a : Option Addr) (k c : Nat) (T : List ByteArray) (w : World) (hA : A.length = ak) (hal : ak ≤ 4611686018427387904) (hat : AAt w aa A) (hn : T.length = k) (hl : k ≤ 4611686018427387904) (hkc : k ≤ c) (htat : TAt w a T) :
    Calls Tryz.prog 46 #[.slice aa ak az, .slice a k c] w fun e w' => e = .returned (.bool (userB A T)) ∧ Below w.heap.size w w' := by
  replace hA := hid hA
  replace hn := hid hn
  replace hat := hid hat
  replace htat := hid htat
  go_enter Tryz.func46, Tryz.ntmps46
  go_wp2_with fail
  go_loopw [5] (fun i wr => ∃ j : Nat, j ≤ k ∧ i = .int .i64 (j : Int) ∧ Hid (UserTo A T j) ∧ Below w.heap.size w wr) (fun i _ => k - (intOf i).toNat)
  case atStart => exact ⟨0, Nat.zero_le _, rfl, hid (fun i hi => by omega), Below.refl _ _⟩
  case round =>
    obtain ⟨j, hj, rfl, hok, hb⟩ := hrel
    by_cases hlt : j < k
    · have hjT : j < T.length := by rw [hn.out]; exact hlt
      obtain ⟨b, o, e⟩ := htat.out.place (by omega)
      subst e
      have x0 := (htat.out.below hb).one hjT
      have kF := rfind_any aa ak az A (txAt T j) wr hA.out hal (hat.out.below hb)
      have kI : ∀ q, Calls Tryz.prog 67 #[.slice (some ⟨b, o, none⟩) j c, .string (txAt T j)] (wr.drewN q) fun e w' => e = .returned (.bool (hasB (T.take j) (txAt T j))) ∧ w' = wr.drewN q := fun q => in26 (some ⟨b, o, none⟩) j c (T.take j) (txAt T j) (wr.drewN q) (by rw [List.length_take]; omega) (by omega) ((htat.out.below (below_drewN hb q)).take j)
      have hah := hid (ti_ahead hjT)
      obtain ⟨vi, hvi⟩ := FRet_form (fi A (txAt T j))
      rw [hvi] at kF
      replace hvi := hid hvi
      have hj0 : (0 : Int) ≤ (j : Int) := by omega
      have hjc : (j : Int) ≤ (c : Int) := by omega
      have hjk : (j : Int) < (k : Int) := by omega
      by_cases h1 : (fi A (txAt T j)).isSome = true
      · by_cases h2 : hasB (T.take j) (txAt T j) = true
        · have hf := hid (show userB A T = false from decide_eq_false fun h => by have := hah.out.1 (h.2 j hjT).1; rw [h2] at this; cases this)
          rw [h1] at kF
          rw [h2] at kI
          clear h1 h2
          replace hok := hid hok
          generalize txAt T j = X at *
          go_wp2_with fail
          refine kF.mono ?_
          rintro e w1 ⟨rfl, rfl⟩
          go_wp2_with fail
          go_quiet (first | (go_at_call 67; exact Calls.quiet_of_same (kI _)))
          go_wp2
          go_ret
          exact ⟨ret_bool hf.out.symm, below_drewN hb _⟩
        · replace h2 : hasB (T.take j) (txAt T j) = false := by simpa using h2
          have hok2 : Hid (UserTo A T (j + 1)) := hid fun i hi => by
            rcases Nat.lt_or_ge i j with h | h
            · exact hok.out i h
            · obtain rfl : i = j := by omega
              exact ⟨hah.out.2 h2, h1⟩
          rw [h1] at kF
          rw [h2] at kI
          clear h1 h2
          replace hok := hid hok
          generalize txAt T j = X at *
          go_wp2_with fail
          refine kF.mono ?_
          rintro e w1 ⟨rfl, rfl⟩
          go_wp2_with fail
          go_quiet (first | (go_at_call 67; exact Calls.quiet_of_same (kI _)))
          have B1 := below_drewN hb nq
          go_wp2_with fail
          go_roundw
          case rel => exact ⟨j + 1, by omega, by go_num, hok2, B1⟩
          case measure => simp [intOf]; omega
      · have hf := hid (show userB A T = false from decide_eq_false fun h => h1 (h.2 j hjT).2)
        replace h1 : (fi A (txAt T j)).isSome = false := by simpa using h1
        rw [h1] at kF
        clear h1 kI
        replace hok := hid hok
        generalize txAt T j = X at *
        go_wp2_with fail
        refine kF.mono ?_
        rintro e w1 ⟨rfl, rfl⟩
        go_wp2_with fail
        go_quiet (fail)
        go_wp2
        go_ret
        exact ⟨ret_bool hf.out.symm, below_drewN hb _⟩
    · have hje : j = k := by omega
      subst hje
      have hf := hid (user_all (A := A) (T := T) (by rw [hn.out]; exact hok.out))
      rw [hn.out] at hf
      by_cases h8 : j ≤ 8
      · have d8 : (j : Int) ≤ 8 := by omega
        rw [decide_eq_true h8] at hf
        go_wp2
        go_ret
        exact ⟨ret_bool (by rw [hf.out]), hb⟩
      · have d8 : ¬ (j : Int) ≤ 8 := by omega
        rw [decide_eq_false h8] at hf
        go_wp2
        go_ret
        exact ⟨ret_bool (by rw [hf.out]), hb⟩

end Go.Proofs.YtflapjehkgefdaaGreat
