/- A config in memory; whether it is right. -/
import Derived.Test.YtflapjehkgefdaaGreatPc
namespace Go.Proofs.YtflapjehkgefdaaGreat
open Go.RowKit

/-- What a config is in memory. -/
structure CfR (w : World) (ca pa aa qa : Option Addr) (cn pn ak az qk : Nat) (Z : List Int) (M : List (Prt × List ByteArray)) (A : List Acc) (Q : List Qu) : Prop where
  il : Z.length = cn
  iat : IAt w ca Z
  ib : cn ≤ 4611686018427387904
  ml : M.length = pn
  mat : PtAt w pa (M.map (·.1))
  mb : pn ≤ 4611686018427387904
  min : ∀ p ∈ M, p.2.length = p.1.dn ∧ TAt w p.1.da p.2 ∧ p.1.dn ≤ 4611686018427387904
  set : ∀ p ∈ M, ∃ z : Nat, p.1.nodes = (z : Int) ∧ z < 4294967296
  al : A.length = ak
  aat : AAt w aa A
  ale : ak ≤ az
  ab : ak ≤ 4611686018427387904
  ql : Q.length = qk
  qat : QAt w qa Q
  qb : qk ≤ 4611686018427387904

theorem CfR.below {w w' : World} {ca pa aa qa : Option Addr} {cn pn ak az qk : Nat} {Z : List Int} {M : List (Prt × List ByteArray)} {A : List Acc} {Q : List Qu} (h : CfR w ca pa aa qa cn pn ak az qk Z M A Q) (hb : Below w.heap.size w w') : CfR w' ca pa aa qa cn pn ak az qk Z M A Q :=
  ⟨h.il, h.iat.below hb, h.ib, h.ml, h.mat.below hb, h.mb, fun p hp => ⟨(h.min p hp).1, (h.min p hp).2.1.below hb, (h.min p hp).2.2⟩, h.set, h.al, h.aat.below hb, h.ale, h.ab, h.ql, h.qat.below hb, h.qb⟩

def m0 : Prt × List ByteArray := (prt0, [])
def mAt (M : List (Prt × List ByteArray)) (i : Nat) : Prt × List ByteArray := M.getD i m0
theorem mAt_eq {M : List (Prt × List ByteArray)} {i : Nat} (h : i < M.length) : M[i] = mAt M i := by simp [mAt, h]
theorem mAt_fst {M : List (Prt × List ByteArray)} {i : Nat} (h : i < M.length) : prtAt (M.map (·.1)) i = (mAt M i).1 := by simp [mAt, prtAt, h]
theorem mAt_mem {M : List (Prt × List ByteArray)} {i : Nat} (h : i < M.length) : mAt M i ∈ M := by rw [← mAt_eq h]; exact List.getElem_mem h

def PrtTo (cn : Nat) (A : List Acc) (M : List (Prt × List ByteArray)) (j : Nat) : Prop := ∀ i, i < j → pi (M.map (·.1)) (mAt M i).1.name = some i ∧ partB cn A (mAt M i).1 (mAt M i).2 = true
def partsB (cn : Nat) (A : List Acc) (M : List (Prt × List ByteArray)) : Bool := decide (1 ≤ M.length ∧ M.length ≤ 8 ∧ ∀ i, i < M.length → pi (M.map (·.1)) (mAt M i).1.name = some i ∧ partB cn A (mAt M i).1 (mAt M i).2 = true)

set_option maxRecDepth 100000 in
set_option maxHeartbeats 2000000 in
theorem parts_any (ca pa aa qa : Option Addr) (cn cc pn pc ak az qk qc : Nat) (pol : Int) (Z : List Int) (M : List (Prt × List ByteArray)) (A : List Acc) (Q : List Qu) (w : World) (hC : CfR w ca pa aa qa cn pn ak az qk Z M A Q) :
    Calls Tryz.prog 57 #[.agg #[.slice ca cn cc, .slice pa pn pc, .slice aa ak az, .slice qa qk qc, .int .u8 pol]] w fun e w' => e = .returned (.bool (partsB cn A M)) ∧ Below w.heap.size w w' := by
  obtain ⟨W1, hW1⟩ : ∃ W1, W1 = w.alloc (.cells #[.slice ca cn cc, .slice pa pn pc, .slice aa ak az, .slice qa qk qc, .int .u8 pol] 28) := ⟨_, rfl⟩
  have b1 : Below w.heap.size w W1 := by rw [hW1]; exact below_lit _ _
  have hml := hC.ml
  have v0 : W1.cell? ⟨w.heap.size, 0, none⟩ = some (.slice ca cn cc) := by rw [hW1]; exact lit_cell _ _ _ _ _ rfl
  have v1 : W1.cell? ⟨w.heap.size, 1, none⟩ = some (.slice pa pn pc) := by rw [hW1]; exact lit_cell _ _ _ _ _ rfl
  have v2 : W1.cell? ⟨w.heap.size, 2, none⟩ = some (.slice aa ak az) := by rw [hW1]; exact lit_cell _ _ _ _ _ rfl
  have v3 : W1.cell? ⟨w.heap.size, 3, none⟩ = some (.slice qa qk qc) := by rw [hW1]; exact lit_cell _ _ _ _ _ rfl
  have v4 : W1.cell? ⟨w.heap.size, 4, none⟩ = some (.int .u8 pol) := by rw [hW1]; exact lit_cell _ _ _ _ _ rfl
  have hlt := World.block_lt_of_cell? W1 _ v0
  replace hC := hC.below b1
  by_cases h1 : pn < 1
  · have hf := hid (show partsB cn A M = false from decide_eq_false fun h => by have := h.1; omega)
    have d1 : (pn : Int) < 1 := by omega
    replace hC := hid hC
    replace hml := hid hml
    replace hW1 := hid hW1
    go_enter Tryz.func57, Tryz.ntmps57
    go_wp2_with fail
    rw [← hW1.out]
    go_wp2
    go_ret
    exact ⟨ret_bool hf.out.symm, b1⟩
  have d1 : ¬ (pn : Int) < 1 := by omega
  by_cases h2 : 8 < pn
  · have hf := hid (show partsB cn A M = false from decide_eq_false fun h => by have := h.2.1; omega)
    have d2 : (8 : Int) < (pn : Int) := by omega
    replace hC := hid hC
    replace hml := hid hml
    replace hW1 := hid hW1
    go_enter Tryz.func57, Tryz.ntmps57
    go_wp2_with fail
    rw [← hW1.out]
    go_wp2
    go_ret
    exact ⟨ret_bool hf.out.symm, b1⟩
  have d2 : ¬ (8 : Int) < (pn : Int) := by omega
  obtain ⟨b, o, e⟩ := hC.mat.place (by rw [List.length_map]; omega)
  subst e
  replace hC := hid hC
  replace hml := hid hml
  replace hW1 := hid hW1
  go_enter Tryz.func57, Tryz.ntmps57
  go_wp2_with fail
  rw [← hW1.out]
  go_wp2_with fail
  go_loopw [20] (fun i wr => ∃ j : Nat, j ≤ pn ∧ i = .int .i64 (j : Int) ∧ Hid (PrtTo cn A M j) ∧ Below W1.heap.size W1 wr) (fun i _ => pn - (intOf i).toNat)
  case atStart => exact ⟨0, Nat.zero_le _, rfl, hid (fun i hi => by omega), Below.refl _ _⟩
  case round =>
    obtain ⟨j, hj, rfl, hok, hb⟩ := hrel
    by_cases hlj : j < pn
    · have hjM : j < M.length := by rw [hml.out]; exact hlj
      have hjP : j < (M.map (·.1)).length := by rw [List.length_map]; exact hjM
      obtain ⟨x0, x1, x2, x3, x4⟩ := (hC.out.mat.below hb).one hjP
      rw [mAt_fst hjM] at x0 x1 x2 x3 x4
      have hmem := mAt_mem hjM
      obtain ⟨z, hz, hz32⟩ := hC.out.set _ hmem
      obtain ⟨t1, t2, t3⟩ := hC.out.min _ hmem
      have hpB := hid (show partB cn A (mAt M j).1 (mAt M j).2 = (nameB (mAt M j).1.name && setB cn z && decide (0 ≤ (mAt M j).1.prio) && decide ((mAt M j).1.prio ≤ 1000) && decide (1 ≤ (mAt M j).1.most) && decide ((mAt M j).1.most ≤ 1048576) && userB A (mAt M j).2) by unfold partB; rw [hz]; rfl)
      have kF := fun w' (hbw : Below W1.heap.size W1 w') => pfind_any (some ⟨b, o, none⟩) pn pc (M.map (·.1)) (mAt M j).1.name w' (by rw [List.length_map]; exact hml.out) (by omega) (hC.out.mat.below hbw)
      have kI := fun w' (hbw : Below W1.heap.size W1 w') => ispart_any ca (some ⟨b, o, none⟩) aa qa cn cc pn pc ak az qk qc pol A (mAt M j).1.name z (mAt M j).1.prio (mAt M j).1.most (mAt M j).1.da (mAt M j).1.dn (mAt M j).1.dc (mAt M j).2 w' hz32 hC.out.al hC.out.ab (hC.out.aat.below hbw) t1 t3 (t2.below hbw)
      rw [← hpB.out] at kI
      rw [hz] at x1
      have hstep : ∀ (h : pi (M.map (·.1)) (mAt M j).1.name = some j ∧ partB cn A (mAt M j).1 (mAt M j).2 = true), Hid (PrtTo cn A M (j + 1)) := fun h => hid fun i hi => by
        rcases Nat.lt_or_ge i j with h1 | h1
        · exact hok.out i h1
        · obtain rfl : i = j := by omega
          exact h
      have hbad : ¬ (pi (M.map (·.1)) (mAt M j).1.name = some j ∧ partB cn A (mAt M j).1 (mAt M j).2 = true) → Hid (partsB cn A M = false) := fun h => hid (decide_eq_false fun h1 => h (h1.2.2 j hjM))
      have hne : ∃ i, pi (M.map (·.1)) (mAt M j).1.name = some i := by
        cases hq : pi (M.map (·.1)) (mAt M j).1.name with
        | some i => exact ⟨i, rfl⟩
        | none => exact absurd (by rw [mAt_fst hjM]) ((pi_no _ _).1 hq j hjP)
      have y0 := stay hb v1
      have lt0 := World.block_lt_of_cell? wr _ y0
      clear t1 t2 t3 hz hpB hmem
      replace hne := hid hne
      replace hok := hid hok
      generalize partB cn A (mAt M j).1 (mAt M j).2 = PB at *
      generalize mAt M j = X at *
      obtain ⟨⟨X0, X1, X2, X3, X4, X5, X6⟩, XT⟩ := X
      dsimp only at *
      obtain ⟨W2, hW2⟩ : ∃ W2, W2 = wr.alloc (.cells #[.string X0, .int .u32 (z : Int), .int .i64 X2, .int .i64 X3, .slice X4 X5 X6] 67) := ⟨_, rfl⟩
      have b2 : Below wr.heap.size wr W2 := by rw [hW2]; exact below_lit _ _
      have u0 : W2.cell? ⟨wr.heap.size, 0, none⟩ = some (.string X0) := by rw [hW2]; exact lit_cell _ _ _ _ _ rfl
      have u1 : W2.cell? ⟨wr.heap.size, 1, none⟩ = some (.int .u32 (z : Int)) := by rw [hW2]; exact lit_cell _ _ _ _ _ rfl
      have u2 : W2.cell? ⟨wr.heap.size, 2, none⟩ = some (.int .i64 X2) := by rw [hW2]; exact lit_cell _ _ _ _ _ rfl
      have u3 : W2.cell? ⟨wr.heap.size, 3, none⟩ = some (.int .i64 X3) := by rw [hW2]; exact lit_cell _ _ _ _ _ rfl
      have u4 : W2.cell? ⟨wr.heap.size, 4, none⟩ = some (.slice X4 X5 X6) := by rw [hW2]; exact lit_cell _ _ _ _ _ rfl
      have B2 := bnext hb b2
      have y1 := stay B2 v1
      have lt2 := World.block_lt_of_cell? W2 _ u0
      have lt3 := World.block_lt_of_cell? W2 _ y1
      have kF2 := kF W2 B2
      clear kF
      replace hW2 := hid hW2
      by_cases hp : pi (M.map (·.1)) X0 = some j
      · rw [hp] at kF2
        simp only [FRet] at kF2
        go_wp2_with fail
        rw [← hW2.out]
        refine kF2.mono ?_
        rintro e w3 ⟨rfl, hb3⟩
        have B3 := bnext B2 hb3
        have kI2 := kI w3 B3
        have z0 := stay B3 v0
        have z1 := stay B3 v1
        have z2 := stay B3 v2
        have z3 := stay B3 v3
        have z4 := stay B3 v4
        replace u0 := stay hb3 u0
        replace u1 := stay hb3 u1
        replace u2 := stay hb3 u2
        replace u3 := stay hb3 u3
        replace u4 := stay hb3 u4
        have lt4 := World.block_lt_of_cell? w3 _ u0
        have lt5 := World.block_lt_of_cell? w3 _ z0
        clear kI y1 lt2 lt3
        cases PB with
        | true =>
          have hs := hstep ⟨hp, rfl⟩
          clear hstep hbad
          replace hp := hid hp
          go_wp2_with fail
          refine kI2.mono ?_
          rintro e w4 ⟨rfl, hb4⟩
          go_wp2_with fail
          go_roundw
          case rel => exact ⟨j + 1, by omega, by go_num, hs, bnext B3 hb4⟩
          case measure => simp [intOf]; omega
        | false =>
          have hs := hbad (fun h => by cases h.2)
          clear hstep hbad
          replace hp := hid hp
          go_wp2_with fail
          refine kI2.mono ?_
          rintro e w4 ⟨rfl, hb4⟩
          go_wp2
          go_ret
          exact ⟨ret_bool hs.out.symm, bnext b1 (bnext B3 hb4)⟩
      · have hs := hbad (fun h => hp h.1)
        clear hstep hbad kI
        obtain ⟨i, hi⟩ := hne.out
        have hij : ¬ (i : Int) = (j : Int) := by intro h; apply hp; rw [hi]; congr 1; omega
        rw [hi] at kF2
        simp only [FRet] at kF2
        clear hp
        replace hi := hid hi
        go_wp2_with fail
        rw [← hW2.out]
        refine kF2.mono ?_
        rintro e w3 ⟨rfl, hb3⟩
        go_wp2
        go_ret
        exact ⟨ret_bool hs.out.symm, bnext b1 (bnext B2 hb3)⟩
    · have hje : j = pn := by omega
      subst hje
      have hf := hid (show partsB cn A M = true from decide_eq_true ⟨by rw [hml.out]; omega, by rw [hml.out]; omega, by rw [hml.out]; exact hok.out⟩)
      go_wp2
      go_ret
      exact ⟨ret_bool hf.out.symm, bnext b1 hb⟩

end Go.Proofs.YtflapjehkgefdaaGreat
