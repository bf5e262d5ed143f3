/- Add. -/
import Derived.Test.YtjfgpepecjkdnaaRh
namespace Go.Proofs.Ytjfgpepecjkdnaa
open Go.RowKit
set_option linter.unusedVariables false

/-- Which error Add tells. -/
def addE (rc : Bool) (cn : Nat) (A : List Acc) (V : List Vw) (r : Vw) (now : Int) : Int :=
  if rlB rc cn A V = false then 250 else if mayB cn A r = false then 2 else if r.to ≤ now then 2 else if hasN V r.name = true then 140 else if 16 ≤ V.length then 5 else if clB (amP V r) = true then 170 else 0

def Added (V : List Vw) (r : Vw) (E : Int) (w : World) (e : Ending) (w' : World) : Prop :=
  ∃ ra n rc M', e = .returned (.tuple #[.slice ra n rc, .int .i64 E]) ∧ n ≤ rc ∧ RL w' ra n M' ∧ (E = 0 → M'.map vw = amP V r) ∧ RO w' w.heap.size (.slice ra n rc) M' ∧ Below w.heap.size w w'
theorem Added.err {V : List Vw} {r : Vw} {E : Int} {w w' : World} (hE : E ≠ 0) (hb : Below w.heap.size w w') : Added V r E w (.returned (.tuple #[.slice none 0 0, .int .i64 E])) w' :=
  ⟨none, 0, 0, [], rfl, Nat.le_refl _, RL.nil _ _, fun h => absurd h hE, RO.nil _ _, hb⟩

set_option maxRecDepth 100000 in
set_option maxHeartbeats 4000000 in
theorem radd_any (ca pa aa qa : Option Addr) (cn cc pn pc ak az qk qc : Nat) (pol : Int) (Z : List Int) (M0 : List (Prt × List ByteArray)) (A : List Acc) (Q : List Qu) (a : Option Addr) (k c : Nat) (M : List (Prt × List ByteArray)) (x : ByteArray) (s : Nat) (f t : Int) (da : Option Addr) (dn dc : Nat) (T : List ByteArray) (now : Int) (w : World)
    (hC : CfR w ca pa aa qa cn pn ak az qk Z M0 A Q) (hR : RL w a k M) (hkc : k ≤ c) (hs : s < 4294967296) (hT : T.length = dn) (hdn : dn ≤ 4611686018427387904) (hTat : TAt w da T) :
    Calls Try.prog 10 #[.agg #[.slice ca cn cc, .slice pa pn pc, .slice aa ak az, .slice qa qk qc, .int .u8 pol], .slice a k c, .agg #[.string x, .int .u32 (s : Int), .int .i64 f, .int .i64 t, .slice da dn dc], .int .i64 now] w
      (Added (M.map vw) ⟨x, s, f, t, T⟩ (addE (rcB Z M0 A Q pol) cn A (M.map vw) ⟨x, s, f, t, T⟩ now) w) := by
  obtain ⟨W0, hW0⟩ : ∃ W0, W0 = w.alloc (.cells #[.slice ca cn cc, .slice pa pn pc, .slice aa ak az, .slice qa qk qc, .int .u8 pol] 28) := ⟨_, rfl⟩
  obtain ⟨W1, hW1⟩ : ∃ W1, W1 = W0.alloc (.cells #[.string x, .int .u32 (s : Int), .int .i64 f, .int .i64 t, .slice da dn dc] 38) := ⟨_, rfl⟩
  have z0 : W0.heap.size = w.heap.size + 1 := by rw [hW0, size_lit]
  have b0 : Below w.heap.size w W0 := by rw [hW0]; exact below_lit _ _
  have b1 : Below W0.heap.size W0 W1 := by rw [hW1]; exact below_lit _ _
  have v0 : W1.cell? ⟨w.heap.size, 0, none⟩ = some (.slice ca cn cc) := stay b1 (by rw [hW0]; exact lit_cell _ _ _ _ _ rfl)
  have v1 : W1.cell? ⟨w.heap.size, 1, none⟩ = some (.slice pa pn pc) := stay b1 (by rw [hW0]; exact lit_cell _ _ _ _ _ rfl)
  have v2 : W1.cell? ⟨w.heap.size, 2, none⟩ = some (.slice aa ak az) := stay b1 (by rw [hW0]; exact lit_cell _ _ _ _ _ rfl)
  have v3 : W1.cell? ⟨w.heap.size, 3, none⟩ = some (.slice qa qk qc) := stay b1 (by rw [hW0]; exact lit_cell _ _ _ _ _ rfl)
  have v4 : W1.cell? ⟨w.heap.size, 4, none⟩ = some (.int .u8 pol) := stay b1 (by rw [hW0]; exact lit_cell _ _ _ _ _ rfl)
  have u0 : W1.cell? ⟨w.heap.size + 1, 0, none⟩ = some (.string x) := by rw [hW1, ← z0]; exact lit_cell _ _ _ _ _ rfl
  have u1 : W1.cell? ⟨w.heap.size + 1, 1, none⟩ = some (.int .u32 (s : Int)) := by rw [hW1, ← z0]; exact lit_cell _ _ _ _ _ rfl
  have u2 : W1.cell? ⟨w.heap.size + 1, 2, none⟩ = some (.int .i64 f) := by rw [hW1, ← z0]; exact lit_cell _ _ _ _ _ rfl
  have u3 : W1.cell? ⟨w.heap.size + 1, 3, none⟩ = some (.int .i64 t) := by rw [hW1, ← z0]; exact lit_cell _ _ _ _ _ rfl
  have u4 : W1.cell? ⟨w.heap.size + 1, 4, none⟩ = some (.slice da dn dc) := by rw [hW1, ← z0]; exact lit_cell _ _ _ _ _ rfl
  have B := bnext b0 b1
  have hvn : (M.map vw).length = k := by rw [List.length_map]; exact hR.len
  have k1 := rright_any ca pa aa qa cn cc pn pc ak az qk qc pol Z M0 A Q a k c M W1 (hC.below B) (hR.below B) hkc
  have k2 := hid (fun w' (hb : Below w.heap.size w w') => maybe_any ca pa aa qa cn cc pn pc ak az qk qc pol A x s f t da dn dc T w' hs hC.al hC.ab (hC.aat.below hb) hT hdn (hTat.below hb))
  have k3 := hid (fun w' (hb : Below w.heap.size w w') (hg : w'.cell? ⟨w.heap.size + 1, 0, none⟩ = some (.string x)) => rcont_any a k c (w.heap.size + 1) M x w' (hR.below hb) hg)
  have hR' := hid hR
  have hfewR : Hid (rlB (rcB Z M0 A Q pol) cn A (M.map vw) = true → k ≤ 16 ∧ ∀ p ∈ M, p.1.dn ≤ 1000) := hid (fun h => by
    have h2 := rl_is.1 h
    exact ⟨by have := h2.2.1; omega, few_of hR h2.2.2.1⟩)
  have hfewr : Hid (mayB cn A ⟨x, s, f, t, T⟩ = true → dn ≤ 1000) := hid (fun h1 => by
    unfold mayB rusrB userB at h1
    simp only [Bool.and_eq_true, decide_eq_true_eq] at h1
    have h2 := h1.2.2.1
    omega)
  have hTat' := hid hTat
  have hT' := hid hT
  clear b0 b1
  replace hC := hid hC
  replace hR := hid hR
  replace hvn := hid hvn
  replace hTat := hid hTat
  replace hT := hid hT
  replace hW0 := hid hW0
  replace z0 := hid z0
  generalize hE : addE (rcB Z M0 A Q pol) cn A (M.map vw) ⟨x, s, f, t, T⟩ now = E at *
  replace hE := hid hE
  generalize hQ1 : rlB (rcB Z M0 A Q pol) cn A (M.map vw) = Q1 at *
  replace hQ1 := hid hQ1
  generalize hQ2 : mayB cn A ⟨x, s, f, t, T⟩ = Q2 at *
  replace hQ2 := hid hQ2
  generalize hQ3 : hasN (M.map vw) x = Q3 at *
  replace hQ3 := hid hQ3
  go_enter Try.func10, Try.ntmps10
  go_wp2_with fail
  rw [← hW0.out, ← hW1]
  replace hW1 := hid hW1
  refine k1.mono ?_
  rintro e w1 ⟨rfl, hb1⟩
  replace B := bnext B hb1
  replace v0 := stay hb1 v0
  replace v1 := stay hb1 v1
  replace v2 := stay hb1 v2
  replace v3 := stay hb1 v3
  replace v4 := stay hb1 v4
  replace u0 := stay hb1 u0
  replace u1 := stay hb1 u1
  replace u2 := stay hb1 u2
  replace u3 := stay hb1 u3
  replace u4 := stay hb1 u4
  have l1 := World.block_lt_of_cell? w1 _ v0
  have l2 := World.block_lt_of_cell? w1 _ u1
  clear k1 hb1
  cases Q1 with
  | false =>
    have hf : Hid (E = 250) := hid (by rw [← hE.out]; unfold addE; rw [if_pos hQ1.out])
    go_wp2
    go_ret2
    have h9 := hf.out
    subst h9
    exact Added.err (by decide) B
  | true =>
    have kM := k2.out w1 B
    go_wp2_with fail
    refine kM.mono ?_
    clear kM
    rintro e w2 ⟨rfl, hb2⟩
    replace B := bnext B hb2
    replace u0 := stay hb2 u0
    replace u1 := stay hb2 u1
    replace u2 := stay hb2 u2
    replace u3 := stay hb2 u3
    replace u4 := stay hb2 u4
    replace l2 := World.block_lt_of_cell? w2 _ u1
    clear hb2 v0 v1 v2 v3 v4 l1
    cases Q2 with
    | false =>
      have hf : Hid (E = 2) := hid (by rw [← hE.out]; unfold addE; rw [if_neg (by rw [hQ1.out]; decide), if_pos hQ2.out])
      go_wp2
      go_ret2
      have h9 := hf.out
      subst h9
      exact Added.err (by decide) B
    | true =>
      by_cases h1 : t ≤ now
      · have d1 : decide (t ≤ now) = true := by simpa using h1
        have hf : Hid (E = 2) := hid (by rw [← hE.out]; unfold addE; rw [if_neg (by rw [hQ1.out]; decide), if_neg (by rw [hQ2.out]; decide), if_pos h1])
        go_wp2
        go_ret2
        have h9 := hf.out
        subst h9
        exact Added.err (by decide) B
      · have d1 : decide (t ≤ now) = false := by simpa using h1
        have kN := k3.out w2 B u0
        go_wp2_with fail
        refine kN.mono ?_
        clear kN
        rintro e w3 ⟨rfl, hb3⟩
        replace B := bnext B hb3
        replace u0 := stay hb3 u0
        replace u1 := stay hb3 u1
        replace u2 := stay hb3 u2
        replace u3 := stay hb3 u3
        replace u4 := stay hb3 u4
        replace l2 := World.block_lt_of_cell? w3 _ u1
        clear hb3
        cases Q3 with
        | true =>
          have hf : Hid (E = 140) := hid (by rw [← hE.out]; unfold addE; rw [if_neg (by rw [hQ1.out]; decide), if_neg (by rw [hQ2.out]; decide), if_neg (show ¬ t ≤ now by omega), if_pos hQ3.out])
          go_wp2
          go_ret2
          have h9 := hf.out
          subst h9
          exact Added.err (by decide) B
        | false =>
          by_cases h16 : 16 ≤ k
          · have d16 : decide ((16 : Int) ≤ (k : Int)) = true := by simp; omega
            have hf : Hid (E = 5) := hid (by rw [← hE.out]; unfold addE; rw [if_neg (by rw [hQ1.out]; decide), if_neg (by rw [hQ2.out]; decide), if_neg (show ¬ t ≤ now by omega), if_neg (by rw [hQ3.out]; decide), if_pos (by rw [hvn.out]; exact h16)])
            go_wp2
            go_ret2
            have h9 := hf.out
            subst h9
            exact Added.err (by decide) B
          · have d16 : decide ((16 : Int) ≤ (k : Int)) = false := by simp; omega
            have kA := among_any a k c M x s f t da dn dc T w3 (hR'.out.below B) (by omega) (hfewR.out (by trivial)).2 hs hT'.out (hfewr.out (by trivial)) (hTat'.out.below B)
            go_wp2_with fail
            refine kA.mono ?_
            clear kA
            rintro e w4 ⟨ra, n, rc, M', rfl, hn, hRL, hmap, hfw, hb4⟩
            have B4 := hid B
            replace B := bnext B hb4
            have kX := clash_any ra n rc M' w4 hRL hn
            rw [hmap] at kX
            replace hRL := hid hRL
            replace hmap := hid hmap
            replace hfw := hid hfw
            clear hb4 u0 u1 u2 u3 u4 l2
            generalize hQ4 : clB (amP (M.map vw) ⟨x, s, f, t, T⟩) = Q4 at *
            replace hQ4 := hid hQ4
            go_wp2_with fail
            refine kX.mono ?_
            clear kX
            rintro e w5 ⟨rfl, hb5⟩
            replace B := bnext B hb5
            cases Q4 with
            | true =>
              have hf : Hid (E = 170) := hid (by rw [← hE.out]; unfold addE; rw [if_neg (by rw [hQ1.out]; decide), if_neg (by rw [hQ2.out]; decide), if_neg (show ¬ t ≤ now by omega), if_neg (by rw [hQ3.out]; decide), if_neg (by rw [hvn.out]; exact h16), if_pos hQ4.out])
              go_wp2
              go_ret2
              have h9 := hf.out
              subst h9
              exact Added.err (by decide) B
            | false =>
              have hf : Hid (E = 0) := hid (by rw [← hE.out]; unfold addE; rw [if_neg (by rw [hQ1.out]; decide), if_neg (by rw [hQ2.out]; decide), if_neg (show ¬ t ≤ now by omega), if_neg (by rw [hQ3.out]; decide), if_neg (by rw [hvn.out]; exact h16), if_neg (by rw [hQ4.out]; decide)])
              go_wp2
              go_ret2
              have h9 := hf.out
              subst h9
              exact ⟨ra, n, rc, M', rfl, hn, hRL.out.below hb5, fun _ => hmap.out, (hfw.out.low B4.out.size).below hb5, B⟩

/-- What Add tells of a right list is right. -/
theorem add_right {rc : Bool} {cn : Nat} {A : List Acc} {V : List Vw} {r : Vw} {now : Int} (h : addE rc cn A V r now = 0) : rlB rc cn A (amP V r) = true := by
  unfold addE at h
  split at h
  · omega
  rename_i h1
  split at h
  · omega
  rename_i h2
  split at h
  · omega
  split at h
  · omega
  split at h
  · omega
  rename_i h5
  split at h
  · omega
  rename_i h6
  exact am_right (by simpa using h1) (by simpa using h2) (by omega) (by simpa using h6)

end Go.Proofs.Ytjfgpepecjkdnaa
