/- Which nodes, accounts and reservations may be. -/
import Derived.Test.YtjfgpepecjkdnaaRc
namespace Go.Proofs.Ytjfgpepecjkdnaa
open Go.RowKit
set_option linter.unusedVariables false

theorem first_lt (n : Int) : (Nd.firstP 4294967295 n).1 < 4294967296 := by
  unfold Nd.firstP
  split
  · exact by decide
  · exact Nd.lowk_lt _ _ (Nat.le_refl 32)

set_option maxRecDepth 100000 in
theorem rnodes_any (ca : Option Addr) (cn cc s : Nat) (hs : s < 4294967296) (w : World) :
    Calls Try.prog 31 #[.slice ca cn cc, .int .u32 (s : Int)] w fun e w' => e = .returned (.bool (anB cn s)) ∧ Below w.heap.size w w' := by
  have hq := hid (show anB cn s = ((Nd.firstP 4294967295 (cn : Int)).2 && decide (0 < Nd.cnt s) && decide (s &&& (4294967295 - (Nd.firstP 4294967295 (cn : Int)).1) = 0)) from rfl)
  have kF := Nd.first_any 4294967295 (cn : Int) (by decide) w
  have hlt := first_lt (cn : Int)
  have kC := fun w' => Nd.count_any s hs w'
  have kW := fun w' => Nd.within_any s _ hs hlt w'
  generalize anB cn s = R at *
  generalize Nd.firstP 4294967295 (cn : Int) = FP at *
  obtain ⟨F, ok⟩ := FP
  dsimp only at *
  generalize decide (s &&& (4294967295 - F) = 0) = Q3 at *
  generalize Nd.cnt s = n at *
  go_enter Try.func31, Try.ntmps31
  go_wp2_with fail
  refine kF.mono ?_
  rintro e w1 ⟨rfl, hb1⟩
  cases ok with
  | false =>
    go_wp2
    go_ret
    exact ⟨ret_bool hq.out.symm, hb1⟩
  | true =>
    by_cases h0 : 0 < n
    · have d0 : decide ((0 : Int) < (n : Int)) = true := by simp; omega
      go_wp2_with fail
      refine (kC _).mono ?_
      rintro e w2 ⟨rfl, hb2⟩
      go_wp2_with fail
      refine (kW _).mono ?_
      rintro e w3 ⟨rfl, rfl⟩
      go_wp2
      go_ret
      exact ⟨ret_bool (by rw [hq.out, decide_eq_true h0]; rfl), bnext hb1 hb2⟩
    · have d0 : decide ((0 : Int) < (n : Int)) = false := by simp; omega
      go_wp2_with fail
      refine (kC _).mono ?_
      rintro e w2 ⟨rfl, hb2⟩
      go_wp2
      go_ret
      exact ⟨ret_bool (by rw [hq.out, decide_eq_false h0]; rfl), bnext hb1 hb2⟩

theorem rusr_is {A : List Acc} {T : List ByteArray} : rusrB A T = decide (1 ≤ T.length ∧ T.length ≤ 8 ∧ ∀ i, i < T.length → ti T (txAt T i) = some i ∧ (fi A (txAt T i)).isSome = true) := by
  unfold rusrB userB
  rw [Bool.eq_iff_iff]
  simp only [Bool.and_eq_true, decide_eq_true_eq]

set_option maxRecDepth 100000 in
set_option maxHeartbeats 1000000 in
theorem rusers_any (aa : Option Addr) (ak az : Nat) (A : List Acc) (a : Option Addr) (k c : Nat) (T : List ByteArray) (w : World) (hA : A.length = ak) (hal : ak ≤ 4611686018427387904) (hat : AAt w aa A) (hn : T.length = k) (hl : k ≤ 4611686018427387904) (htat : TAt w a T) :
    Calls Try.prog 32 #[.slice aa ak az, .slice a k c] w fun e w' => e = .returned (.bool (rusrB A T)) ∧ Below w.heap.size w w' := by
  rw [rusr_is]
  by_cases h1 : k < 1
  · have hf := hid (show decide (1 ≤ T.length ∧ T.length ≤ 8 ∧ ∀ i, i < T.length → ti T (txAt T i) = some i ∧ (fi A (txAt T i)).isSome = true) = false from decide_eq_false fun h => by have := h.1; omega)
    have d1 : decide ((k : Int) < 1) = true := by simp; omega
    replace hA := hid hA
    replace hn := hid hn
    replace hat := hid hat
    replace htat := hid htat
    go_enter Try.func32, Try.ntmps32
    go_wp2
    go_ret
    rw [hf.out]; exact ⟨rfl, Below.refl _ _⟩
  have d1 : decide ((k : Int) < 1) = false := by simp; omega
  by_cases h8 : 8 < k
  · have hf := hid (show decide (1 ≤ T.length ∧ T.length ≤ 8 ∧ ∀ i, i < T.length → ti T (txAt T i) = some i ∧ (fi A (txAt T i)).isSome = true) = false from decide_eq_false fun h => by have := h.2.1; omega)
    have d8 : decide ((8 : Int) < (k : Int)) = true := by simp; omega
    replace hA := hid hA
    replace hn := hid hn
    replace hat := hid hat
    replace htat := hid htat
    go_enter Try.func32, Try.ntmps32
    go_wp2
    go_ret
    rw [hf.out]; exact ⟨rfl, Below.refl _ _⟩
  have d8 : decide ((8 : Int) < (k : Int)) = false := by simp; omega
  generalize hRR : decide (1 ≤ T.length ∧ T.length ≤ 8 ∧ ∀ i, i < T.length → ti T (txAt T i) = some i ∧ (fi A (txAt T i)).isSome = true) = R at *
  replace hRR := hid hRR
  replace hA := hid hA
  replace hn := hid hn
  replace hat := hid hat
  replace htat := hid htat
  go_enter Try.func32, Try.ntmps32
  go_wp2_with fail
  go_loopw [19] (fun i wr => ∃ j : Nat, j ≤ k ∧ i = .int .i64 (j : Int) ∧ Hid (UserTo A T j) ∧ Below w.heap.size w wr) (fun i _ => k - (intOf i).toNat)
  case atStart => exact ⟨0, Nat.zero_le _, rfl, hid (fun i hi => by omega), Below.refl _ _⟩
  case round =>
    obtain ⟨j, hj, rfl, hok, hb⟩ := hrel
    by_cases hlt : j < k
    · have hjT : j < T.length := by rw [hn.out]; exact hlt
      obtain ⟨b, o, e⟩ := htat.out.place (by omega)
      subst e
      have x0 := (htat.out.below hb).one hjT
      have kI := fun w' (hb' : Below w.heap.size w w') => index74 (some ⟨b, o, none⟩) k c T (txAt T j) w' hn.out hl (htat.out.below hb')
      have kH := find_any aa ak az A (txAt T j) wr hA.out hal (hat.out.below hb)
      cases h2 : fi A (txAt T j) with
      | none =>
        have hf := hid (show R = false by rw [← hRR.out]; exact decide_eq_false fun h => by have := (h.2.2 j hjT).2; rw [h2] at this; cases this)
        rw [h2] at kH
        simp only [FRet] at kH
        replace hok := hid hok
        generalize txAt T j = X at *
        replace h2 := hid h2
        go_wp2_with fail
        refine kH.mono ?_
        rintro e w2 ⟨rfl, hb2⟩
        go_wp2
        go_ret
        exact ⟨ret_bool hf.out.symm, bnext hb hb2⟩
      | some q =>
        rw [h2] at kH
        simp only [FRet] at kH
        by_cases h1 : ti T (txAt T j) = some j
        · have hok2 : Hid (UserTo A T (j + 1)) := hid fun i hi => by
            rcases Nat.lt_or_ge i j with h | h
            · exact hok.out i h
            · obtain rfl : i = j := by omega
              exact ⟨h1, by rw [h2]; rfl⟩
          have p1 : plV (ti T (txAt T j)) = (j : Int) := plV_eq h1
          rw [p1] at kI
          clear p1 h1
          replace hok := hid hok
          generalize txAt T j = X at *
          replace h2 := hid h2
          go_wp2_with fail
          refine kH.mono ?_
          rintro e w2 ⟨rfl, hb2⟩
          go_wp2_with fail
          refine (kI _ (bnext hb hb2)).mono ?_
          rintro e w3 ⟨rfl, rfl⟩
          go_wp2_with fail
          go_roundw
          case rel => exact ⟨j + 1, by omega, by go_num, hok2, bnext hb hb2⟩
          case measure => simp [intOf]; omega
        · have hf := hid (show R = false by rw [← hRR.out]; exact decide_eq_false fun h => h1 (h.2.2 j hjT).1)
          have p1 := plV_ne h1
          generalize plV (ti T (txAt T j)) = R2 at *
          clear h1
          replace hok := hid hok
          generalize txAt T j = X at *
          replace h2 := hid h2
          go_wp2_with fail
          refine kH.mono ?_
          rintro e w2 ⟨rfl, hb2⟩
          go_wp2_with fail
          refine (kI _ (bnext hb hb2)).mono ?_
          rintro e w3 ⟨rfl, rfl⟩
          go_wp2
          go_ret
          exact ⟨ret_bool hf.out.symm, bnext hb hb2⟩
    · have hje : j = k := by omega
      subst hje
      have hf := hid (show R = true by rw [← hRR.out]; exact decide_eq_true ⟨by rw [hn.out]; omega, by rw [hn.out]; omega, by rw [hn.out]; exact hok.out⟩)
      go_wp2
      go_ret
      exact ⟨ret_bool hf.out.symm, hb⟩

set_option maxRecDepth 100000 in
set_option maxHeartbeats 1000000 in
theorem maybe_any (ca pa aa qa : Option Addr) (cn cc pn pc ak az qk qc : Nat) (pol : Int) (A : List Acc) (x : ByteArray) (s : Nat) (f t : Int) (da : Option Addr) (dn dc : Nat) (T : List ByteArray) (w : World)
    (hs : s < 4294967296) (hA : A.length = ak) (hal : ak ≤ 4611686018427387904) (hat : AAt w aa A) (hn : T.length = dn) (hl : dn ≤ 4611686018427387904) (htat : TAt w da T) :
    Calls Try.prog 14 #[.agg #[.slice ca cn cc, .slice pa pn pc, .slice aa ak az, .slice qa qk qc, .int .u8 pol], .agg #[.string x, .int .u32 (s : Int), .int .i64 f, .int .i64 t, .slice da dn dc]] w
      fun e w' => e = .returned (.bool (mayB cn A ⟨x, s, f, t, T⟩)) ∧ Below w.heap.size w w' := by
  obtain ⟨W0, hW0⟩ : ∃ W0, W0 = w.alloc (.cells #[.slice ca cn cc, .slice pa pn pc, .slice aa ak az, .slice qa qk qc, .int .u8 pol] 28) := ⟨_, rfl⟩
  obtain ⟨W1, hW1⟩ : ∃ W1, W1 = W0.alloc (.cells #[.string x, .int .u32 (s : Int), .int .i64 f, .int .i64 t, .slice da dn dc] 38) := ⟨_, rfl⟩
  have z0 : W0.heap.size = w.heap.size + 1 := by rw [hW0, size_lit]
  have b0 : Below w.heap.size w W0 := by rw [hW0]; exact below_lit _ _
  have b1 : Below W0.heap.size W0 W1 := by rw [hW1]; exact below_lit _ _
  have v0 : W1.cell? ⟨w.heap.size, 0, none⟩ = some (.slice ca cn cc) := stay b1 (by rw [hW0]; exact lit_cell _ _ _ _ _ rfl)
  have v2 : W1.cell? ⟨w.heap.size, 2, none⟩ = some (.slice aa ak az) := stay b1 (by rw [hW0]; exact lit_cell _ _ _ _ _ rfl)
  have u1 : W1.cell? ⟨w.heap.size + 1, 1, none⟩ = some (.int .u32 (s : Int)) := by rw [hW1, ← z0]; exact lit_cell _ _ _ _ _ rfl
  have u2 : W1.cell? ⟨w.heap.size + 1, 2, none⟩ = some (.int .i64 f) := by rw [hW1, ← z0]; exact lit_cell _ _ _ _ _ rfl
  have u3 : W1.cell? ⟨w.heap.size + 1, 3, none⟩ = some (.int .i64 t) := by rw [hW1, ← z0]; exact lit_cell _ _ _ _ _ rfl
  have u4 : W1.cell? ⟨w.heap.size + 1, 4, none⟩ = some (.slice da dn dc) := by rw [hW1, ← z0]; exact lit_cell _ _ _ _ _ rfl
  have B := bnext b0 b1
  have k1 := name_any x W1
  have k2 := fun w' => rnodes_any ca cn cc s hs w'
  have k3 := fun w' (hb : Below w.heap.size w w') => rusers_any aa ak az A da dn dc T w' hA hal (hat.below hb) hn hl (htat.below hb)
  have hq := hid (show mayB cn A ⟨x, s, f, t, T⟩ = (nameB x && anB cn s && decide (0 ≤ f) && decide (f < t) && decide (t ≤ 1099511627776) && rusrB A T) from rfl)
  clear b0 b1
  replace hat := hid hat
  replace htat := hid htat
  replace hA := hid hA
  replace hn := hid hn
  replace hW0 := hid hW0
  replace z0 := hid z0
  generalize mayB cn A ⟨x, s, f, t, T⟩ = R at *
  generalize nameB x = Q1 at *
  generalize anB cn s = Q2 at *
  generalize rusrB A T = Q3 at *
  go_enter Try.func14, Try.ntmps14
  go_wp2_with fail
  rw [← hW0.out, ← hW1]
  replace hW1 := hid hW1
  refine k1.mono ?_
  rintro e w1 ⟨rfl, hb1⟩
  replace B := bnext B hb1
  replace v0 := stay hb1 v0
  replace v2 := stay hb1 v2
  replace u1 := stay hb1 u1
  replace u2 := stay hb1 u2
  replace u3 := stay hb1 u3
  replace u4 := stay hb1 u4
  have l1 := World.block_lt_of_cell? w1 _ v0
  have l2 := World.block_lt_of_cell? w1 _ u1
  clear k1 hb1
  cases Q1 with
  | false =>
    go_wp2
    go_ret
    exact ⟨ret_bool hq.out.symm, B⟩
  | true =>
    go_wp2_with fail
    refine (k2 _).mono ?_
    rintro e w2 ⟨rfl, hb2⟩
    replace B := bnext B hb2
    replace v2 := stay hb2 v2
    replace u2 := stay hb2 u2
    replace u3 := stay hb2 u3
    replace u4 := stay hb2 u4
    replace l1 := World.block_lt_of_cell? w2 _ v2
    replace l2 := World.block_lt_of_cell? w2 _ u2
    clear k2 hb2 v0 u1
    cases Q2 with
    | false =>
      go_wp2
      go_ret
      exact ⟨ret_bool hq.out.symm, B⟩
    | true =>
      by_cases h1 : 0 ≤ f
      · have d1 : decide (0 ≤ f) = true := by simpa using h1
        by_cases h2 : f < t
        · have d2 : decide (f < t) = true := by simpa using h2
          by_cases h3 : t ≤ 1099511627776
          · have d3 : decide (t ≤ 1099511627776) = true := by simpa using h3
            go_wp2_with fail
            refine (k3 _ B).mono ?_
            rintro e w3 ⟨rfl, hb3⟩
            go_wp2
            go_ret
            exact ⟨ret_bool (by rw [hq.out, d1, d2, d3]; cases Q3 <;> rfl), bnext B hb3⟩
          · have d3 : decide (t ≤ 1099511627776) = false := by simpa using h3
            go_wp2
            go_ret
            exact ⟨ret_bool (by rw [hq.out, d1, d2, d3]; rfl), B⟩
        · have d2 : decide (f < t) = false := by simpa using h2
          go_wp2
          go_ret
          exact ⟨ret_bool (by rw [hq.out, d1, d2]; rfl), B⟩
      · have d1 : decide (0 ≤ f) = false := by simpa using h1
        go_wp2
        go_ret
        exact ⟨ret_bool (by rw [hq.out, d1]; rfl), B⟩

end Go.Proofs.Ytjfgpepecjkdnaa
