/- Whether a list is a right tree; the place of an account in it. -/
import Derived.Test.YtflapjehkgefdaaGreatName
namespace Go.Proofs.YtflapjehkgefdaaGreat
open Go.RowKit

theorem fits_any (a : Option Addr) (k c : Nat) (A : List Acc) (x y : ByteArray) (l : Int) (w : World) (hn : A.length = k) (hl : k ≤ 4611686018427387904) (hat : AAt w a A) :
    Calls Tryz.prog 79 #[.slice a k c, .agg #[.string x, .string y, .int .i64 l]] w fun e w' => e = .returned (.bool (fitsB A (x, y, l))) ∧ Below w.heap.size w w' := by
  have bl := below_lit w (.cells #[.string x, .string y, .int .i64 l] 80)
  have k1 := find_any a k c A x _ hn hl (hat.below bl)
  have k2 := fun w2 (h : Below w.heap.size w w2) => find_any a k c A y w2 hn hl (hat.below h)
  have k3 := fun w => name_any x w
  have k4 := fun w => islim_any l w
  unfold fitsB
  simp only []
  have hc0 : (w.alloc (.cells #[.string x, .string y, .int .i64 l] 80)).cell? ⟨w.heap.size, 0, none⟩ = some (.string x) := by
    obtain ⟨b, o, e, h⟩ := cat_lit w 80 [.string x, .string y, .int .i64 l] _ rfl (by simp)
    cases e
    exact h 0 (by simp)
  have hc1 : (w.alloc (.cells #[.string x, .string y, .int .i64 l] 80)).cell? ⟨w.heap.size, 1, none⟩ = some (.string y) := by
    obtain ⟨b, o, e, h⟩ := cat_lit w 80 [.string x, .string y, .int .i64 l] _ rfl (by simp)
    cases e
    exact h 1 (by simp)
  have hc2 : (w.alloc (.cells #[.string x, .string y, .int .i64 l] 80)).cell? ⟨w.heap.size, 2, none⟩ = some (.int .i64 l) := by
    obtain ⟨b, o, e, h⟩ := cat_lit w 80 [.string x, .string y, .int .i64 l] _ rfl (by simp)
    cases e
    exact h 2 (by simp)
  generalize fi A x = r1 at *
  generalize fi A y = r2 at *
  generalize nameB x = B at *
  generalize limB l = M at *
  have hy : (y.toList == ByteArray.empty.toList) = decide (y = ByteArray.empty) := by
    by_cases h : y = ByteArray.empty
    · rw [text_eq h, decide_eq_true h]
    · rw [text_ne h, decide_eq_false h]
  generalize decide (y = ByteArray.empty) = Y at *
  have hy2 : (y.toList == (⟨#[]⟩ : ByteArray).toList) = Y := hy
  replace hn := hid hn
  replace hat := hid hat
  obtain ⟨W0, hW0⟩ : ∃ W0, W0 = w.alloc (.cells #[.string x, .string y, .int .i64 l] 80) := ⟨_, rfl⟩
  rw [← hW0] at bl k1 hc0 hc1 hc2
  have go1 : ∀ B0 B1 B2 : Bool, B0 = B1 → B0 = B2 → Ending.returned (.bool B1) = Ending.returned (.bool B2) := fun _ _ _ h1 h2 => by rw [← h1, h2]
  clear go1
  go_enter Tryz.func79, Tryz.ntmps79
  cases r1 with
  | some i =>
    simp only [FRet] at k1
    go_wp2_with fail
    rw [← hW0]
    refine k1.mono ?_
    rintro e w1 ⟨rfl, hb1⟩
    have B1 := bnext bl hb1
    go_wp2
    go_ret
    exact ⟨rfl, B1⟩
  | none =>
    simp only [FRet] at k1
    go_wp2_with fail
    rw [← hW0]
    refine k1.mono ?_
    rintro e w1 ⟨rfl, hb1⟩
    have B1 := bnext bl hb1
    have d0 := stay hb1 hc0
    have d1 := stay hb1 hc1
    have d2 := stay hb1 hc2
    clear hc0 hc1 hc2 k1
    go_wp2_with fail
    refine (k2 _ B1).mono ?_
    rintro e w2 ⟨rfl, hb2⟩
    have B2 := bnext B1 hb2
    have e0 := stay hb2 d0
    have e1 := stay hb2 d1
    have e2 := stay hb2 d2
    clear d0 d1 d2 k2
    cases B with
    | false =>
      cases r2 <;>
      · simp only [FRet]
        go_wp2_with fail
        refine (k3 _).mono ?_
        rintro e w3 ⟨rfl, hb3⟩
        have B3 := bnext B2 hb3
        go_wp2
        go_ret
        exact ⟨rfl, B3⟩
    | true =>
      cases r2 with
      | some j =>
        simp only [FRet]
        go_wp2_with fail
        refine (k3 _).mono ?_
        rintro e w3 ⟨rfl, hb3⟩
        have B3 := bnext B2 hb3
        have f2 := stay hb3 e2
        clear e0 e1 e2
        go_wp2_with fail
        refine (k4 _).mono ?_
        rintro e w4 ⟨rfl, rfl⟩
        go_wp2
        go_ret
        refine ⟨ret_bool ?_, B3⟩
        cases M <;> rfl
      | none =>
        simp only [FRet]
        cases Y with
        | true =>
          have hy3 : y.toList = [] := by simpa using hy
          replace hy := hid hy
          replace hy2 := hid hy2
          go_wp2_with fail
          refine (k3 _).mono ?_
          rintro e w3 ⟨rfl, hb3⟩
          have B3 := bnext B2 hb3
          have f1 := stay hb3 e1
          have f2 := stay hb3 e2
          clear e0 e1 e2
          go_wp2_with fail
          refine (k4 _).mono ?_
          rintro e w4 ⟨rfl, rfl⟩
          go_wp2
          go_ret
          refine ⟨ret_bool ?_, B3⟩
          cases M <;> rfl
        | false =>
          have hy3 : ¬ y.toList = [] := by simpa using hy
          replace hy := hid hy
          replace hy2 := hid hy2
          go_wp2_with fail
          refine (k3 _).mono ?_
          rintro e w3 ⟨rfl, hb3⟩
          have B3 := bnext B2 hb3
          have f1 := stay hb3 e1
          have f2 := stay hb3 e2
          clear e0 e1 e2
          go_wp2
          go_ret
          exact ⟨rfl, B3⟩

def FitTo (L : List Acc) (j : Nat) : Prop := ∀ i, i < j → fitsB (L.take i) (accAt L i) = true

theorem right_no {L : List Acc} (h : ¬ (1 ≤ L.length ∧ L.length ≤ 16)) : rightB L = false := decide_eq_false fun h1 => h ⟨h1.1, h1.2.1⟩
theorem right_bad {L : List Acc} {i : Nat} (hi : i < L.length) (h : fitsB (L.take i) (accAt L i) = false) : rightB L = false := decide_eq_false fun h1 => by
  have := h1.2.2 i hi
  rw [h] at this; cases this
theorem right_good {L : List Acc} (h1 : 1 ≤ L.length) (h2 : L.length ≤ 16) (h : FitTo L L.length) : rightB L = true := decide_eq_true ⟨h1, h2, h⟩

set_option maxRecDepth 100000 in
set_option maxHeartbeats 1000000 in
theorem right_any (a : Option Addr) (k c : Nat) (L : List Acc) (w : World) (hn : L.length = k) (hkc : k ≤ c) (hat : AAt w a L) :
    Calls Tryz.prog 72 #[.slice a k c] w fun e w' => e = .returned (.bool (rightB L)) ∧ Below w.heap.size w w' := by
  by_cases h1 : k < 1
  · have hf := hid (right_no (L := L) (by omega))
    have d1 : decide ((k : Int) < 1) = true := by simp; omega
    replace hn := hid hn
    replace hat := hid hat
    go_enter Tryz.func72, Tryz.ntmps72
    go_wp2
    go_ret
    rw [hf.out]; exact ⟨rfl, Below.refl _ _⟩
  have d1 : decide ((k : Int) < 1) = false := by simp; omega
  by_cases h2 : 16 < k
  · have hf := hid (right_no (L := L) (by omega))
    have d2 : decide ((16 : Int) < (k : Int)) = true := by simp; omega
    replace hn := hid hn
    replace hat := hid hat
    go_enter Tryz.func72, Tryz.ntmps72
    go_wp2
    go_ret
    rw [hf.out]; exact ⟨rfl, Below.refl _ _⟩
  have d2 : decide ((16 : Int) < (k : Int)) = false := by simp; omega
  obtain ⟨b, o, e⟩ := hat.place (by omega)
  subst e
  replace hn := hid hn
  replace hat := hid hat
  go_enter Tryz.func72, Tryz.ntmps72
  go_wp2_with fail
  go_loopw [15] (fun i wr => ∃ j : Nat, j ≤ k ∧ i = .int .i64 (j : Int) ∧ Hid (FitTo L j) ∧ Below w.heap.size w wr) (fun i _ => k - (intOf i).toNat)
  case atStart => exact ⟨0, Nat.zero_le _, rfl, hid (fun i hi => by omega), Below.refl _ _⟩
  case round =>
    obtain ⟨j, hj, rfl, hok, hb⟩ := hrel
    by_cases hlt : j < k
    · have hjL : j < L.length := by rw [hn.out]; exact hlt
      obtain ⟨x0, x1, x2⟩ := (hat.out.below hb).one hjL
      have bl := below_lit wr (.cells #[.string (accAt L j).1, .string (accAt L j).2.1, .int .i64 (accAt L j).2.2] 80)
      have hc0 : ¬ c = 0 := by omega
      have hjc : (j : Int) ≤ (c : Int) := by omega
      have hjk : (j : Int) ≤ (k : Int) := by omega
      have kF := fun w2 (h : Below w.heap.size w w2) => fits_any (some ⟨b, o, none⟩) j c (L.take j) (accAt L j).1 (accAt L j).2.1 (accAt L j).2.2 w2 (by rw [List.length_take]; omega) (by omega) ((hat.out.below h).take j)
      have B0 := bnext hb bl
      cases hB : fitsB (L.take j) (accAt L j)
      · have hf := hid (right_bad hjL hB)
        rw [show ((accAt L j).1, (accAt L j).2.1, (accAt L j).2.2) = accAt L j from rfl, hB] at kF
        replace hB := hid hB
        replace hok := hid hok
        generalize accAt L j = X at *
        obtain ⟨X0, X1, X2⟩ := X
        dsimp only at *
        go_wp2_with fail
        go_region_with (go_at_call 79; refine (kF _ B0.drew).mono ?_; rintro e w1 ⟨rfl, hb1⟩; have B1 := bnext B0.drew hb1)
        go_wp2
        go_ret
        rw [hf.out]; exact ⟨rfl, B1⟩
      · have hok2 : Hid (FitTo L (j + 1)) := hid fun i hi => by
          rcases Nat.lt_or_ge i j with h | h
          · exact hok.out i h
          · obtain rfl : i = j := by omega
            exact hB
        rw [show ((accAt L j).1, (accAt L j).2.1, (accAt L j).2.2) = accAt L j from rfl, hB] at kF
        replace hB := hid hB
        replace hok := hid hok
        generalize accAt L j = X at *
        obtain ⟨X0, X1, X2⟩ := X
        dsimp only at *
        go_wp2_with fail
        go_region_with (go_at_call 79; refine (kF _ B0.drew).mono ?_; rintro e w1 ⟨rfl, hb1⟩; have B1 := bnext B0.drew hb1)
        go_wp2_with fail
        go_roundw
        case rel => exact ⟨j + 1, by omega, by go_num, hok2, B1⟩
        case measure => simp [intOf]; omega
    · have hje : j = k := by omega
      subst hje
      have hf := hid (right_good (L := L) (by have := hn.out; omega) (by have := hn.out; omega) (by rw [hn.out]; exact hok.out))
      go_wp2
      go_ret
      rw [hf.out]; exact ⟨rfl, hb⟩

end Go.Proofs.YtflapjehkgefdaaGreat
