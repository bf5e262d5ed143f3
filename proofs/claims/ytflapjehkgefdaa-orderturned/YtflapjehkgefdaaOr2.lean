/- order: rating, placing, Prio, Ahead. -/
import Derived.Test.YtflapjehkgefdaaOr1
import Derived.Test.YtflapjehkgefdaaSr8
namespace Go.Proofs.Ytflapjehkgefdaa
open Go.RowKit
set_option linter.unusedVariables false
set_option linter.unusedSimpArgs false

/-- What rating hands out: a function that lasts. -/
def RateF (Z : List Int) (M : List (Prt × List ByteArray)) (A : List Acc) (Q : List Qu) (pol : Int) (w : World) (v : Value) : Prop :=
  ∃ gR gC : Nat, v = .func (.func 26) #[] #[ptr gR, ptr gC] ∧ gR < w.heap.size ∧ gC < w.heap.size ∧ ∀ w', Below w.heap.size w w' → ∀ s : Spc, Calls Try.prog 26 #[.agg (sc s).toArray, ptr gR, ptr gC] w' (PrioT (prioP Z M A Q pol s.qos s.part) w')

theorem bool_lit (w : World) (b : Bool) : (w.alloc (.cells #[.bool b] 4)).cell? ⟨w.heap.size, 0, none⟩ = some (.bool b) := lit_cell _ _ _ _ _ rfl

set_option maxRecDepth 100000 in
set_option maxHeartbeats 400000 in
theorem rating_any (ca pa aa qa : Option Addr) (cn cc pn pc ak az qk qc : Nat) (pol : Int) (Z : List Int) (M : List (Prt × List ByteArray)) (A : List Acc) (Q : List Qu) (w : World) (hC : CfR w ca pa aa qa cn pn ak az qk Z M A Q) :
    Calls Try.prog 19 #[.agg #[.slice ca cn cc, .slice pa pn pc, .slice aa ak az, .slice qa qk qc, .int .u8 pol]] w fun e w' => (∃ v, e = .returned v ∧ RateF Z M A Q pol w' v) ∧ Below w.heap.size w w' := by
  obtain ⟨W1, hW1⟩ : ∃ W1, W1 = w.alloc (.cells #[.slice ca cn cc, .slice pa pn pc, .slice aa ak az, .slice qa qk qc, .int .u8 pol] 28) := ⟨_, rfl⟩
  have b1 : Below w.heap.size w W1 := by rw [hW1]; exact below_lit _ _
  have hB : CfB W1 w.heap.size ca pa aa qa cn cc pn pc ak az qk qc pol := by rw [hW1]; exact cfb_lit _ _ _ _ _ _ _ _ _ _ _ _ _ _
  have hC1 := hC.below b1
  have k1 := prt_any ca pa aa qa cn cc pn pc ak az qk qc pol Z M A Q W1 hC1
  have v0 := hB.v0; have v1 := hB.v1; have v2 := hB.v2; have v3 := hB.v3; have v4 := hB.v4
  have hlt := World.block_lt_of_cell? W1 _ v0
  generalize hgS : w.heap.size = gS at *
  replace hgS := hid hgS
  replace hB := hid hB
  replace hC1 := hid hC1
  clear hC
  replace hW1 := hid hW1
  replace b1 := hid b1
  obtain ⟨rc, hrc⟩ : ∃ rc, rc = rcB Z M A Q pol := ⟨_, rfl⟩
  rw [← hrc] at k1
  replace hrc := hid hrc
  go_enter Try.func19, Try.ntmps19
  go_upto_region 1 with fail
  rw [← hW1.out, hgS.out]
  go_wp2_with fail
  refine k1.mono ?_
  clear k1
  rintro e w2 ⟨rfl, h2⟩
  have hs2 : gS < w2.heap.size := by have := h2.size; omega
  have hB2 := hid (hB.out.below h2)
  have hC2 := hid (hC1.out.below h2)
  have B2 := hid (b1.out.trans (h2.mono (by omega)))
  clear h2 v0 v1 v2 v3 v4 hlt hB hC1 b1 hW1
  go_wp2
  go_ret
  have bl := below_lit w2 (.cells #[.bool rc] 4)
  refine ⟨⟨_, rfl, w2.heap.size, gS, rfl, by simp, by simp; omega, fun w' hb s => ?_⟩, ?_⟩
  · refine rate_any w2.heap.size gS ca pa aa qa cn cc pn pc ak az qk qc pol Z M A Q s.user s.acct s.qos s.part s.nodes s.cores s.lim s.da s.dn s.dc w' ?_ ((hB2.out.below bl).below hb) ((hC2.out.below bl).below hb)
    rw [← hrc.out]
    exact stay hb (bool_lit w2 rc)
  · exact B2.out.trans (bl.mono (by omega))

theorem ij_all (i j : Int) : (#[Value.int .i64 i, Value.int .i64 j]).all (·.oneCell') = true := by simp [Value.oneCell']
/-- The place of a job. -/
def plzP (Z : List Int) (M : List (Prt × List ByteArray)) (A : List Acc) (Q : List Qu) (pol : Int) (J : Job) : Plc := ((prioP Z M A Q pol J.s.qos J.s.part).1, J.id)
/-- What placing hands out: a function that lasts. -/
def PlzF (Z : List Int) (M : List (Prt × List ByteArray)) (A : List Acc) (Q : List Qu) (pol : Int) (w : World) (v : Value) : Prop :=
  ∃ gF : Nat, v = .func (.func 21) #[] #[ptr gF] ∧ gF < w.heap.size ∧ ∀ w', Below w.heap.size w w' → ∀ J : Job, Calls Try.prog 21 #[.agg (jc J).toArray, ptr gF] w' fun e w2 => e = .returned (.agg (plc (plzP Z M A Q pol J)).toArray) ∧ Below w'.heap.size w' w2
theorem RateF.below {Z : List Int} {M : List (Prt × List ByteArray)} {A : List Acc} {Q : List Qu} {pol : Int} {w w' : World} {v : Value} (h : RateF Z M A Q pol w v) (hb : Below w.heap.size w w') : RateF Z M A Q pol w' v := by
  obtain ⟨gR, gC, e, h1, h2, h3⟩ := h
  exact ⟨gR, gC, e, Nat.lt_of_lt_of_le h1 hb.size, Nat.lt_of_lt_of_le h2 hb.size, fun w2 h => h3 w2 (hb.trans (h.mono hb.size))⟩
theorem PlzF.below {Z : List Int} {M : List (Prt × List ByteArray)} {A : List Acc} {Q : List Qu} {pol : Int} {w w' : World} {v : Value} (h : PlzF Z M A Q pol w v) (hb : Below w.heap.size w w') : PlzF Z M A Q pol w' v := by
  obtain ⟨gF, e, h1, h3⟩ := h
  exact ⟨gF, e, Nat.lt_of_lt_of_le h1 hb.size, fun w2 h => h3 w2 (hb.trans (h.mono hb.size))⟩

set_option maxRecDepth 100000 in
set_option maxHeartbeats 1000000 in
theorem plz_any (gF : Nat) (Z : List Int) (M : List (Prt × List ByteArray)) (A : List Acc) (Q : List Qu) (pol : Int) (fv : Value) (w : World) (hF : w.cell? ⟨gF, 0, none⟩ = some fv) (hR : RateF Z M A Q pol w fv) (J : Job) :
    Calls Try.prog 21 #[.agg (jc J).toArray, ptr gF] w fun e w2 => e = .returned (.agg (plc (plzP Z M A Q pol J)).toArray) ∧ Below w.heap.size w w2 := by
  obtain ⟨W0, hW0⟩ : ∃ W0, W0 = (w.alloc (.cells (jc J).toArray 40)).alloc (.cells #[.int .i64 0, .int .i64 0] 59) := ⟨_, rfl⟩
  have bl0 := below_lit w (.cells (jc J).toArray 40)
  have bl1 := below_lit (w.alloc (.cells (jc J).toArray 40)) (.cells #[.int .i64 0, .int .i64 0] 59)
  have bl := bnext bl0 bl1
  have r0 : W0.heap[w.heap.size]? = some (.cells (jc J).toArray 40 (0, 0)) := by
    rw [hW0, bl1.block _ (by rw [size_lit]; omega)]; exact heap_alloc_new w _
  have r1 : W0.heap[w.heap.size + 1]? = some (.cells #[.int .i64 0, .int .i64 0] 59 (0, 0)) := by
    have := heap_alloc_new (w.alloc (.cells (jc J).toArray 40)) (.cells #[.int .i64 0, .int .i64 0] 59)
    rw [size_lit] at this
    rw [hW0]; exact this
  rw [← hW0] at bl
  have hsz : W0.heap.size = w.heap.size + 1 + 1 := by rw [hW0, size_lit, size_lit]
  clear bl0 bl1
  obtain ⟨gR, gC, rfl, _, _, hcall⟩ := hR.below bl
  have kC := hcall W0 (Below.refl _ _) J.s
  have y3 : W0.rangeAt w.heap.size 3 (sc J.s) := fun r v hv => row_cell r0 (3 + r) v (by
    have hr : r < 8 := by
      rcases Nat.lt_or_ge r 8 with h1 | h1
      · exact h1
      · rw [List.getElem?_eq_none (by rw [sc_len]; exact h1)] at hv; cases hv
    obtain rfl | rfl | rfl | rfl | rfl | rfl | rfl | rfl : r = 0 ∨ r = 1 ∨ r = 2 ∨ r = 3 ∨ r = 4 ∨ r = 5 ∨ r = 6 ∨ r = 7 := by omega
    all_goals exact hv)
  have x0 := stay bl hF
  replace y3 := hid y3
  replace r0 := hid r0
  replace r1 := hid r1
  replace bl := hid bl
  clear hF hR hcall
  obtain ⟨pz, hpz⟩ : ∃ pz, pz = prioP Z M A Q pol J.s.qos J.s.part := ⟨_, rfl⟩
  have hpl : Hid (plzP Z M A Q pol J = (pz.1, J.id)) := hid (by unfold plzP; rw [← hpz])
  rw [← hpz] at kC
  clear hpz
  replace hW0 := hid hW0
  replace hsz := hid hsz
  go_enter Try.func21, Try.ntmps21
  go_upto_region 1 with fail
  rw [← hW0.out]
  go_wp2_with (refine wpList_load_mid rfl 35 (.tmp 8) rfl w.heap.size 3 rfl (sc J.s) _ y3.out Try.underlying35 rfl (by kernel_rfl) ?_)
  refine kC.mono ?_
  clear kC
  rintro e w1 ⟨rfl, hb1⟩
  have D1 := hid (bnext bl.out hb1)
  have q0 : w1.heap[w.heap.size]? = some (.cells (jc J).toArray 40 (0, 0)) := by rw [hb1.block _ (by have := hsz.out; omega)]; exact r0.out
  have q1 : w1.heap[w.heap.size + 1]? = some (.cells #[.int .i64 0, .int .i64 0] 59 (0, 0)) := by rw [hb1.block _ (by have := hsz.out; omega)]; exact r1.out
  have z0 : w1.cell? ⟨w.heap.size, 0, none⟩ = some (.int .i64 J.id) := row_cell q0 0 _ rfl
  have D2 : Below w.heap.size w (w1.setRow (w.heap.size + 1) #[.int .i64 pz.1, .int .i64 J.id]) := below_setRow D1.out (by omega) _
  have v1 := setRow_heap w1 (w.heap.size + 1) _ #[.int .i64 pz.1, .int .i64 J.id] _ _ q1
  replace q0 := hid q0
  replace q1 := hid q1
  replace D2 := hid D2
  replace v1 := hid v1
  clear hb1
  go_wp2_with (refine wpList_store_row rfl 59 (.tmp 3) (.tmp 16) rfl (w.heap.size + 1) #[.int .i64 pz.1, .int .i64 J.id] rfl rfl 59 _ q1.out (by kernel_rfl) rfl (ij_all _ _) ?_)
  (try simp only [Exit.inBlock, Exit.then])
  refine bodyPost_ret (results_cell_row rfl _ _ (w.heap.size + 1) 59 #[.int .i64 pz.1, .int .i64 J.id] (0, 0) _ rfl v1.out Try.underlying59 rfl (by kernel_rfl)) rfl ?_
  rw [hpl.out]
  exact ⟨rfl, D2.out⟩
end Go.Proofs.Ytflapjehkgefdaa
