/- Whom a reservation admits; the blocks of an account. -/
import Derived.Test.YtjfgpepecjkdnaaRi
namespace Go.Proofs.Ytjfgpepecjkdnaa
open Go.RowKit
set_option linter.unusedVariables false

set_option maxRecDepth 100000 in
theorem radm_any (ca pa aa qa : Option Addr) (cn cc pn pc ak az qk qc : Nat) (pol : Int) (A : List Acc) (x : ByteArray) (s f t : Int) (da : Option Addr) (dn dc : Nat) (T : List ByteArray) (n : ByteArray) (w : World)
    (hA : A.length = ak) (hal : ak ≤ az) (hab : ak ≤ 4611686018427387904) (hat : AAt w aa A) (hn : T.length = dn) (hl : dn ≤ 4611686018427387904) (htat : TAt w da T) :
    Calls Try.prog 17 #[.agg #[.slice ca cn cc, .slice pa pn pc, .slice aa ak az, .slice qa qk qc, .int .u8 pol], .agg #[.string x, .int .u32 s, .int .i64 f, .int .i64 t, .slice da dn dc], .string n] w
      fun e w' => e = .returned (.bool (admB A T n)) ∧ Below w.heap.size w w' := by
  have b1 := below_lit w (.cells #[.slice ca cn cc, .slice pa pn pc, .slice aa ak az, .slice qa qk qc, .int .u8 pol] 28)
  have b2 := below_lit (w.alloc (.cells #[.slice ca cn cc, .slice pa pn pc, .slice aa ak az, .slice qa qk qc, .int .u8 pol] 28)) (.cells #[.string x, .int .u32 s, .int .i64 f, .int .i64 t, .slice da dn dc] 38)
  have B := bnext b1 b2
  have k := admits_any aa ak az A da dn dc T n _ hA hab (hal) (hat.below B) hn hl (htat.below B)
  replace hA := hid hA
  replace hn := hid hn
  replace hat := hid hat
  replace htat := hid htat
  generalize admB A T n = R at *
  go_enter Try.func17, Try.ntmps17
  go_wp2_with fail
  refine k.mono ?_
  rintro e w1 ⟨rfl, hb1⟩
  go_wp2
  go_ret
  exact ⟨rfl, bnext B hb1⟩

/-- How many blocks an account has. -/
def blkN (A : List Acc) (V : List Vw) (n : ByteArray) : Nat := (V.filter fun v => !admB A v.T n).length
theorem blk_step {A : List Acc} {V : List Vw} {n : ByteArray} {j : Nat} (hj : j < V.length) : blkN A (V.take (j + 1)) n = blkN A (V.take j) n + if admB A (vAt V j).T n = true then 0 else 1 := by
  unfold blkN
  rw [take_more hj, List.filter_append, List.length_append, vAt_eq]
  cases h : admB A (vAt V j).T n <;> simp [h]
theorem blk_le (A : List Acc) (V : List Vw) (n : ByteArray) (j : Nat) : blkN A (V.take j) n ≤ j := by
  unfold blkN
  exact Nat.le_trans (List.length_filter_le _ _) (List.length_take_le _ _)
theorem info46 : (Try.prog.info? 46).map (fun i => (i.zero, i.size, i.bytes)) = some (some (.agg #[.int .u32 0, .int .i64 0, .int .i64 0]), 3, 24) := by kernel_rfl
theorem bv_one (p : Prt) : ∀ u ∈ (bv p).toList, u.oneCell' = true := by
  intro u hu
  simp [bv] at hu
  rcases hu with rfl | rfl | rfl <;> rfl

set_option maxRecDepth 100000 in
set_option maxHeartbeats 4000000 in
theorem rblocks_any (ca pa aa qa : Option Addr) (cn cc pn pc ak az qk qc : Nat) (pol : Int) (Z : List Int) (M0 : List (Prt × List ByteArray)) (A : List Acc) (Q : List Qu) (a : Option Addr) (k c : Nat) (M : List (Prt × List ByteArray)) (n : ByteArray) (w : World) (hC : CfR w ca pa aa qa cn pn ak az qk Z M0 A Q) (hR : RL w a k M) (hk : k ≤ 1000) :
    Calls Try.prog 9 #[.agg #[.slice ca cn cc, .slice pa pn pc, .slice aa ak az, .slice qa qk qc, .int .u8 pol], .slice a k c, .string n] w fun e w' => ∃ ra rc, e = .returned (.slice ra (blkN A (M.map vw) n) rc) ∧ Below w.heap.size w w' := by
  obtain ⟨i0, hi, hz0, hz1, hz2⟩ := info_parts info46
  obtain ⟨W1, hW1⟩ : ∃ W1, W1 = w.alloc (.cells #[.slice ca cn cc, .slice pa pn pc, .slice aa ak az, .slice qa qk qc, .int .u8 pol] 28) := ⟨_, rfl⟩
  have b1 : Below w.heap.size w W1 := by rw [hW1]; exact below_lit _ _
  have v0 : W1.cell? ⟨w.heap.size, 0, none⟩ = some (.slice ca cn cc) := by rw [hW1]; exact lit_cell _ _ _ _ _ rfl
  have v1 : W1.cell? ⟨w.heap.size, 1, none⟩ = some (.slice pa pn pc) := by rw [hW1]; exact lit_cell _ _ _ _ _ rfl
  have v2 : W1.cell? ⟨w.heap.size, 2, none⟩ = some (.slice aa ak az) := by rw [hW1]; exact lit_cell _ _ _ _ _ rfl
  have v3 : W1.cell? ⟨w.heap.size, 3, none⟩ = some (.slice qa qk qc) := by rw [hW1]; exact lit_cell _ _ _ _ _ rfl
  have v4 : W1.cell? ⟨w.heap.size, 4, none⟩ = some (.int .u8 pol) := by rw [hW1]; exact lit_cell _ _ _ _ _ rfl
  have hn : M.length = k := hR.len
  have hmn : (M.map (·.1)).length = k := by rw [List.length_map]; exact hn
  have hvn : (M.map vw).length = k := by rw [List.length_map]; exact hn
  replace hn := hid hn
  replace hmn := hid hmn
  replace hvn := hid hvn
  replace hR := hid hR
  replace hC := hid hC
  go_enter Try.func9, Try.ntmps9
  go_wp2_with fail
  rw [← hW1]
  replace hW1 := hid hW1
  generalize hg2 : w.heap.size = g2 at v0 v1 v2 v3 v4 ⊢
  replace hg2 := hid hg2
  go_loopw [7, 12] (fun v i wr => ∃ (j m : Nat) (xs : List Value), j ≤ k ∧ i = .int .i64 (j : Int) ∧ Hid (wr.ownsRow W1.heap.size 46 3 v m xs ∧ m = blkN A ((M.map vw).take j) n) ∧ Below W1.heap.size W1 wr) (fun _ i _ => k - (intOf i).toNat)
  case atStart => exact ⟨0, 0, [], Nat.zero_le _, rfl, hid ⟨World.ownsRow_nil _ _ _ _, by simp [blkN]⟩, Below.refl _ _⟩
  case round =>
    obtain ⟨j, m, xs, hj, rfl, hown, hb⟩ := hrel
    obtain ⟨va, vc, e, hvc⟩ := owns_form hown.out.1
    have hmj : m ≤ j := by rw [hown.out.2]; exact blk_le _ _ _ _
    subst e
    have D := b1.trans (hb.mono b1.size)
    by_cases hlt : j < k
    · have hjL : j < (M.map (·.1)).length := by rw [hmn.out]; exact hlt
      have hjM : j < M.length := by rw [hn.out]; exact hlt
      have hjV : Hid (j < (M.map vw).length) := hid (by rw [hvn.out]; exact hlt)
      obtain ⟨b, o, e⟩ := hR.out.mat.place (by omega)
      subst e
      obtain ⟨y0, y1, y2, y3, y4⟩ := (hR.out.mat.below D).one hjL
      have hv1 := hid (vAt_vw hjM)
      obtain ⟨hT1, hT2, hT3⟩ := hR.out.inn _ (mAt_mem hjM)
      rw [mAt_fst hjM] at y0 y1 y2 y3 y4
      generalize mAt M j = MJ at *
      obtain ⟨⟨x1, s1, f1, t1, da1, dn1, dc1⟩, T1⟩ := MJ
      dsimp only at *
      have hstep := blk_step (A := A) (n := n) hjV.out
      have hTT : (vAt (M.map vw) j).T = T1 := by rw [hv1.out]; rfl
      rw [hTT] at hstep
      replace hTT := hid hTT
      obtain ⟨W2, hW2⟩ : ∃ W2, W2 = wr.alloc (.cells #[.string x1, .int .u32 s1, .int .i64 f1, .int .i64 t1, .slice da1 dn1 dc1] 38) := ⟨_, rfl⟩
      have b2 : Below wr.heap.size wr W2 := by rw [hW2]; exact below_lit _ _
      have r0 : W2.heap[wr.heap.size]? = some (.cells #[.string x1, .int .u32 s1, .int .i64 f1, .int .i64 t1, .slice da1 dn1 dc1] 38 (0, 0)) := by rw [hW2]; exact heap_alloc_new _ _
      have hb2 := bnext hb b2
      replace v0 := stay hb v0
      replace v1 := stay hb v1
      replace v2 := stay hb v2
      replace v3 := stay hb v3
      replace v4 := stay hb v4
      have D2 := bnext D b2
      have kA := radm_any ca pa aa qa cn cc pn pc ak az qk qc pol A x1 s1 f1 t1 da1 dn1 dc1 T1 n W2 hC.out.al hC.out.ale hC.out.ab (hC.out.aat.below D2) hT1 hT3 (hT2.below D2)
      have hglt := World.block_lt_of_cell? wr _ v0
      have hO2 := hid (owns_below hown.out.1 b2)
      replace hT1 := hid hT1
      replace hT2 := hid hT2
      generalize admB A T1 n = B at *
      replace hstep := hid hstep
      go_wp2_with fail
      rw [← hW2]
      replace hW2 := hid hW2
      refine kA.mono ?_
      rintro e w1 ⟨rfl, hb3⟩
      have hO3 := hid (owns_below hO2.out hb3)
      have hb3' := bnext hb2 hb3
      have r1 : w1.heap[wr.heap.size]? = some (.cells #[.string x1, .int .u32 s1, .int .i64 f1, .int .i64 t1, .slice da1 dn1 dc1] 38 (0, 0)) := by
        rw [hb3.block _ (Array.getElem?_eq_some_iff.1 r0).1]; exact r0
      cases B with
      | true =>
        have hm2 : Hid (m = blkN A ((M.map vw).take (j + 1)) n) := hid (by rw [hstep.out, ← hown.out.2]; rfl)
        replace r0 := hid r0
        replace r1 := hid r1
        go_wp2_with fail
        go_roundw
        case rel => exact ⟨j + 1, m, xs, by omega, by go_num, hid ⟨hO3.out, hm2.out⟩, hb3'⟩
        case measure => simp [intOf]; omega
      | false =>
        have hm2 : Hid (m + 1 = blkN A ((M.map vw).take (j + 1)) n) := hid (by rw [hstep.out, ← hown.out.2]; rfl)
        have z0 := row_cell r1 0 (.string x1) rfl
        have z1 := row_cell r1 1 (.int .u32 s1) rfl
        have z2 := row_cell r1 2 (.int .i64 f1) rfl
        have z3 := row_cell r1 3 (.int .i64 t1) rfl
        have z4 := row_cell r1 4 (.slice da1 dn1 dc1) rfl
        have hltz := World.block_lt_of_cell? w1 _ z0
        have kB := block_any ⟨x1, s1, f1, t1, da1, dn1, dc1⟩ w1
        simp only [pc5] at kB
        replace r0 := hid r0
        replace r1 := hid r1
        go_wp2_with fail
        refine kB.mono ?_
        rintro e w2 ⟨rfl, hb4⟩
        obtain ⟨J, hJ⟩ : ∃ J : Prt, J = ⟨x1, s1, f1, t1, da1, dn1, dc1⟩ := ⟨_, rfl⟩
        rw [← hJ]
        replace hJ := hid hJ
        have bl := below_lit w2 (.cells (bv J) 46)
        have hO4 : (w2.alloc (.cells (bv J) 46)).ownsRow W1.heap.size 46 3 (.slice va m vc) m xs := owns_below (owns_below hO3.out hb4) bl
        have hcat := hid (cat_lit w2 46 (bv J).toList (bv J) (by simp))
        have hone := hid (bv_one J)
        have B4 := bnext (bnext hb3' hb4) bl
        have hbd : (m + 1) * 24 ≤ 140737488355328 := by omega
        replace hO4 := hid hO4
        clear z0 z1 z2 z3 z4
        go_wp2_with (first | (refine wpList_one rfl 43 46 (.tmp 23) rfl (bv J) 3 i0 _ Try.underlying43 hi hz0 hz1 (by omega) (by omega) rfl rfl ?_) | (at_builtin; refine Hid.out ?_))
        refine wpList_cat _ rfl (.tmp 21) (.tmp 24) 43 rfl W1.heap.size 46 i0 _ 3 24 Try.underlying43 hi hz0 hz1 hz2 rfl (by omega) _ _ _ rfl hO4.out (some ⟨w2.heap.size, 0, none⟩) 1 1 (bv J).toList rfl rfl hcat.out hone.out (by unfold maxLen; omega) hbd B4.size ?_
        intro v' w4 ho4 hg4 hv4
        have K4 : Below W1.heap.size W1 w4 := Below.grown B4 hg4 B4.size (fun j hj => (hO4.out.lt _ hj).1)
        replace ho4 := hid ho4
        clear hg4 hv4 hcat
        go_wp2_with fail
        go_roundw
        case rel => exact ⟨j + 1, m + 1, _, by omega, by go_num, hid ⟨ho4.out, hm2.out⟩, K4⟩
        case measure => simp [intOf]; omega
    · have hje : j = k := by omega
      subst hje
      have hf : Hid (m = blkN A (M.map vw) n) := hid (by rw [hown.out.2, ← hvn.out, List.take_length])
      go_wp2
      go_ret
      exact ⟨va, vc, by rw [hf.out]; rfl, D⟩

def bigB (cn pn ak qk k : Nat) : Bool := decide (60 < cn ∨ 60 < pn ∨ 60 < ak ∨ 60 < qk ∨ 60 < k)
set_option maxRecDepth 100000 in
set_option maxHeartbeats 1000000 in
theorem big_any (ca pa aa qa : Option Addr) (cn cc pn pc ak az qk qc : Nat) (pol : Int) (a : Option Addr) (k c : Nat) (w : World) :
    Calls Try.prog 5 #[.agg #[.slice ca cn cc, .slice pa pn pc, .slice aa ak az, .slice qa qk qc, .int .u8 pol], .slice a k c] w fun e w' => e = .returned (.bool (bigB cn pn ak qk k)) ∧ Below w.heap.size w w' := by
  have bl := below_lit w (.cells #[.slice ca cn cc, .slice pa pn pc, .slice aa ak az, .slice qa qk qc, .int .u8 pol] 28)
  by_cases h0 : 60 < cn
  · have d0 : (60 : Int) < (cn : Int) := by omega
    have hf := hid (show bigB cn pn ak qk k = true from decide_eq_true (by omega))
    go_enter Try.func5, Try.ntmps5
    go_wp2
    go_ret
    exact ⟨ret_bool hf.out.symm, bl⟩
  have d0 : ¬ (60 : Int) < (cn : Int) := by omega
  by_cases h1 : 60 < pn
  · have d1 : (60 : Int) < (pn : Int) := by omega
    have hf := hid (show bigB cn pn ak qk k = true from decide_eq_true (by omega))
    go_enter Try.func5, Try.ntmps5
    go_wp2
    go_ret
    exact ⟨ret_bool hf.out.symm, bl⟩
  have d1 : ¬ (60 : Int) < (pn : Int) := by omega
  by_cases h2 : 60 < ak
  · have d2 : (60 : Int) < (ak : Int) := by omega
    have hf := hid (show bigB cn pn ak qk k = true from decide_eq_true (by omega))
    go_enter Try.func5, Try.ntmps5
    go_wp2
    go_ret
    exact ⟨ret_bool hf.out.symm, bl⟩
  have d2 : ¬ (60 : Int) < (ak : Int) := by omega
  by_cases h3 : 60 < qk
  · have d3 : (60 : Int) < (qk : Int) := by omega
    have hf := hid (show bigB cn pn ak qk k = true from decide_eq_true (by omega))
    go_enter Try.func5, Try.ntmps5
    go_wp2
    go_ret
    exact ⟨ret_bool hf.out.symm, bl⟩
  have d3 : ¬ (60 : Int) < (qk : Int) := by omega
  by_cases h4 : 60 < k
  · have d4 : (60 : Int) < (k : Int) := by omega
    have hf := hid (show bigB cn pn ak qk k = true from decide_eq_true (by omega))
    go_enter Try.func5, Try.ntmps5
    go_wp2
    go_ret
    exact ⟨ret_bool hf.out.symm, bl⟩
  have d4 : ¬ (60 : Int) < (k : Int) := by omega
  have hf := hid (show bigB cn pn ak qk k = false from decide_eq_false (by omega))
  go_enter Try.func5, Try.ntmps5
  go_wp2
  go_ret
  exact ⟨ret_bool hf.out.symm, bl⟩

end Go.Proofs.Ytjfgpepecjkdnaa
