/- order: rating, placing, Prio, Ahead. -/
import Derived.Test.YtflapjehkgefdaaGreatOr1
import Derived.Test.YtflapjehkgefdaaGreatSr8
import Derived.Laws.EntriesVeiled
import Derived.Lib.Join
namespace Go.Proofs.YtflapjehkgefdaaGreat
open Go.RowKit
set_option linter.unusedVariables false
set_option linter.unusedSimpArgs false

/-- What rating hands out: a function that lasts. -/
def RateF (Z : List Int) (M : List (Prt × List ByteArray)) (A : List Acc) (Q : List Qu) (pol : Int) (w : World) (v : Value) : Prop :=
  ∃ gR gC : Nat, v = .func (.func 37) #[] #[ptr gR, ptr gC] ∧ gR < w.heap.size ∧ gC < w.heap.size ∧ ∀ w', Below w.heap.size w w' → ∀ s : Spc, Calls Tryz.prog 37 #[.agg (sc s).toArray, ptr gR, ptr gC] w' (PrioT (prioP Z M A Q pol s.qos s.part) w')

theorem bool_lit (w : World) (b : Bool) : (w.alloc (.cells #[.bool b] 4)).cell? ⟨w.heap.size, 0, none⟩ = some (.bool b) := lit_cell _ _ _ _ _ rfl

set_option maxRecDepth 100000 in
set_option maxHeartbeats 400000 in
theorem rating_any (ca pa aa qa : Option Addr) (cn cc pn pc ak az qk qc : Nat) (pol : Int) (Z : List Int) (M : List (Prt × List ByteArray)) (A : List Acc) (Q : List Qu) (w : World) (hC : CfR w ca pa aa qa cn pn ak az qk Z M A Q) :
    Calls Tryz.prog 24 #[.agg #[.slice ca cn cc, .slice pa pn pc, .slice aa ak az, .slice qa qk qc, .int .u8 pol]] w fun e w' => (∃ v, e = .returned v ∧ RateF Z M A Q pol w' v) ∧ Below w.heap.size w w' := by
  obtain ⟨W1, hW1⟩ : ∃ W1, W1 = w.alloc (.cells #[.slice ca cn cc, .slice pa pn pc, .slice aa ak az, .slice qa qk qc, .int .u8 pol] 28) := ⟨_, rfl⟩
  have b1 : Below w.heap.size w W1 := by rw [hW1]; exact below_lit _ _
  have hB : CfB W1 w.heap.size ca pa aa qa cn cc pn pc ak az qk qc pol := by rw [hW1]; exact cfb_lit _ _ _ _ _ _ _ _ _ _ _ _ _ _
  have hC1 := hC.below b1
  have k1 := prt_any ca pa aa qa cn cc pn pc ak az qk qc pol Z M A Q W1 hC1
  have v0 := hB.v0; have v1 := hB.v1; have v2 := hB.v2; have v3 := hB.v3; have v4 := hB.v4
  have hlt := World.block_lt_of_cell? W1 _ v0
  generalize hgS : w.heap.size = gS at *
  replace hgS := hid hgS
  replace hB := hid hB
  replace hC1 := hid hC1
  clear hC
  replace hW1 := hid hW1
  replace b1 := hid b1
  obtain ⟨rc, hrc⟩ : ∃ rc, rc = rcB Z M A Q pol := ⟨_, rfl⟩
  rw [← hrc] at k1
  replace hrc := hid hrc
  go_enter Tryz.func24, Tryz.ntmps24
  go_upto_region 1 with fail
  rw [← hW1.out, hgS.out]
  go_wp2_with fail
  refine k1.mono ?_
  clear k1
  rintro e w2 ⟨rfl, h2⟩
  have hs2 : gS < w2.heap.size := by have := h2.size; omega
  have hB2 := hid (hB.out.below h2)
  have hC2 := hid (hC1.out.below h2)
  have B2 := hid (b1.out.trans (h2.mono (by omega)))
  clear h2 v0 v1 v2 v3 v4 hlt hB hC1 b1 hW1
  go_wp2
  go_ret
  have bl := below_lit w2 (.cells #[.bool rc] 4)
  refine ⟨⟨_, rfl, w2.heap.size, gS, rfl, by simp, by simp; omega, fun w' hb s => ?_⟩, ?_⟩
  · refine rate_any w2.heap.size gS ca pa aa qa cn cc pn pc ak az qk qc pol Z M A Q s.user s.acct s.qos s.part s.nodes s.cores s.lim s.da s.dn s.dc w' ?_ ((hB2.out.below bl).below hb) ((hC2.out.below bl).below hb)
    rw [← hrc.out]
    exact stay hb (bool_lit w2 rc)
  · exact B2.out.trans (bl.mono (by omega))

theorem ij_all (i j : Int) : (#[Value.int .i64 i, Value.int .i64 j]).all (·.oneCell') = true := by simp [Value.oneCell']
/-- The place of a job. -/
def plzP (Z : List Int) (M : List (Prt × List ByteArray)) (A : List Acc) (Q : List Qu) (pol : Int) (J : Job) : Plc := ((prioP Z M A Q pol J.s.qos J.s.part).1, J.id)
/-- What placing hands out: a function that lasts. -/
def PlzF (Z : List Int) (M : List (Prt × List ByteArray)) (A : List Acc) (Q : List Qu) (pol : Int) (w : World) (v : Value) : Prop :=
  ∃ gF : Nat, v = .func (.func 48) #[] #[ptr gF] ∧ gF < w.heap.size ∧ ∀ w', Below w.heap.size w w' → ∀ J : Job, Calls Tryz.prog 48 #[.agg (jc J).toArray, ptr gF] w' fun e w2 => e = .returned (.agg (plc (plzP Z M A Q pol J)).toArray) ∧ Below w'.heap.size w' w2
theorem RateF.below {Z : List Int} {M : List (Prt × List ByteArray)} {A : List Acc} {Q : List Qu} {pol : Int} {w w' : World} {v : Value} (h : RateF Z M A Q pol w v) (hb : Below w.heap.size w w') : RateF Z M A Q pol w' v := by
  obtain ⟨gR, gC, e, h1, h2, h3⟩ := h
  exact ⟨gR, gC, e, Nat.lt_of_lt_of_le h1 hb.size, Nat.lt_of_lt_of_le h2 hb.size, fun w2 h => h3 w2 (hb.trans (h.mono hb.size))⟩
theorem PlzF.below {Z : List Int} {M : List (Prt × List ByteArray)} {A : List Acc} {Q : List Qu} {pol : Int} {w w' : World} {v : Value} (h : PlzF Z M A Q pol w v) (hb : Below w.heap.size w w') : PlzF Z M A Q pol w' v := by
  obtain ⟨gF, e, h1, h3⟩ := h
  exact ⟨gF, e, Nat.lt_of_lt_of_le h1 hb.size, fun w2 h => h3 w2 (hb.trans (h.mono hb.size))⟩

set_option maxRecDepth 100000 in
set_option maxHeartbeats 1000000 in
theorem plz_any (gF : Nat) (Z : List Int) (M : List (Prt × List ByteArray)) (A : List Acc) (Q : List Qu) (pol : Int) (fv : Value) (w : World) (hF : w.cell? ⟨gF, 0, none⟩ = some fv) (hR : RateF Z M A Q pol w fv) (J : Job) :
    Calls Tryz.prog 48 #[.agg (jc J).toArray, ptr gF] w fun e w2 => e = .returned (.agg (plc (plzP Z M A Q pol J)).toArray) ∧ Below w.heap.size w w2 := by
  obtain ⟨W0, hW0⟩ : ∃ W0, W0 = (w.alloc (.cells (jc J).toArray 37)).alloc (.cells #[.int .i64 0, .int .i64 0] 73) := ⟨_, rfl⟩
  have bl0 := below_lit w (.cells (jc J).toArray 37)
  have bl1 := below_lit (w.alloc (.cells (jc J).toArray 37)) (.cells #[.int .i64 0, .int .i64 0] 73)
  have bl := bnext bl0 bl1
  have r0 : W0.heap[w.heap.size]? = some (.cells (jc J).toArray 37 (0, 0)) := by
    rw [hW0, bl1.block _ (by rw [size_lit]; omega)]; exact heap_alloc_new w _
  have r1 : W0.heap[w.heap.size + 1]? = some (.cells #[.int .i64 0, .int .i64 0] 73 (0, 0)) := by
    have := heap_alloc_new (w.alloc (.cells (jc J).toArray 37)) (.cells #[.int .i64 0, .int .i64 0] 73)
    rw [size_lit] at this
    rw [hW0]; exact this
  rw [← hW0] at bl
  have hsz : W0.heap.size = w.heap.size + 1 + 1 := by rw [hW0, size_lit, size_lit]
  clear bl0 bl1
  obtain ⟨gR, gC, rfl, _, _, hcall⟩ := hR.below bl
  have kC := hcall W0 (Below.refl _ _) J.s
  have y3 : W0.rangeAt w.heap.size 3 (sc J.s) := fun r v hv => row_cell r0 (3 + r) v (by
    have hr : r < 8 := by
      rcases Nat.lt_or_ge r 8 with h1 | h1
      · exact h1
      · rw [List.getElem?_eq_none (by rw [sc_len]; exact h1)] at hv; cases hv
    obtain rfl | rfl | rfl | rfl | rfl | rfl | rfl | rfl : r = 0 ∨ r = 1 ∨ r = 2 ∨ r = 3 ∨ r = 4 ∨ r = 5 ∨ r = 6 ∨ r = 7 := by omega
    all_goals exact hv)
  have x0 := stay bl hF
  replace y3 := hid y3
  replace r0 := hid r0
  replace r1 := hid r1
  replace bl := hid bl
  clear hF hR hcall
  obtain ⟨pz, hpz⟩ : ∃ pz, pz = prioP Z M A Q pol J.s.qos J.s.part := ⟨_, rfl⟩
  have hpl : Hid (plzP Z M A Q pol J = (pz.1, J.id)) := hid (by unfold plzP; rw [← hpz])
  rw [← hpz] at kC
  clear hpz
  replace hW0 := hid hW0
  replace hsz := hid hsz
  go_enter Tryz.func48, Tryz.ntmps48
  go_upto_region 1 with fail
  rw [← hW0.out]
  go_wp2_with (refine wpList_load_mid rfl 32 (.tmp 8) rfl w.heap.size 3 rfl (sc J.s) _ y3.out Tryz.underlying32 rfl (by kernel_rfl) ?_)
  refine kC.mono ?_
  clear kC
  rintro e w1 ⟨rfl, hb1⟩
  have D1 := hid (bnext bl.out hb1)
  have q0 : w1.heap[w.heap.size]? = some (.cells (jc J).toArray 37 (0, 0)) := by rw [hb1.block _ (by have := hsz.out; omega)]; exact r0.out
  have q1 : w1.heap[w.heap.size + 1]? = some (.cells #[.int .i64 0, .int .i64 0] 73 (0, 0)) := by rw [hb1.block _ (by have := hsz.out; omega)]; exact r1.out
  have z0 : w1.cell? ⟨w.heap.size, 0, none⟩ = some (.int .i64 J.id) := row_cell q0 0 _ rfl
  have D2 : Below w.heap.size w (w1.setRow (w.heap.size + 1) #[.int .i64 pz.1, .int .i64 J.id]) := below_setRow D1.out (by omega) _
  have v1 := setRow_heap w1 (w.heap.size + 1) _ #[.int .i64 pz.1, .int .i64 J.id] _ _ q1
  replace q0 := hid q0
  replace q1 := hid q1
  replace D2 := hid D2
  replace v1 := hid v1
  clear hb1
  go_wp2_with (refine wpList_store_row rfl 73 (.tmp 3) (.tmp 16) rfl (w.heap.size + 1) #[.int .i64 pz.1, .int .i64 J.id] rfl rfl 73 _ q1.out (by kernel_rfl) rfl (ij_all _ _) ?_)
  (try simp only [Exit.inBlock, Exit.then])
  refine bodyPost_ret (results_cell_row rfl _ _ (w.heap.size + 1) 73 #[.int .i64 pz.1, .int .i64 J.id] (0, 0) _ rfl v1.out Tryz.underlying73 rfl (by kernel_rfl)) rfl ?_
  rw [hpl.out]
  exact ⟨rfl, D2.out⟩
end Go.Proofs.YtflapjehkgefdaaGreat

namespace Go.Proofs.YtflapjehkgefdaaGreat
open Go.RowKit
set_option linter.unusedVariables false
set_option linter.unusedSimpArgs false

theorem wp_callq {Q : Exit → Act → World → Prop} {a : Act} {w : World} {K : Act → World → Prop} {o : Oper} (f : FuncId) (x : Operand) (args : Array Operand) (tys : Array TypeId) (caps : Array Value)
    (ho : o.op = .call { callee := .value x, args := args, argTypes := tys }) (hx : a.eval x = .func (.func f) #[] caps) (fn : Func) (hf : Tryz.prog.funcs[f]? = some fn) (hn : (fn.name == "runtime.NumGoroutine") = false) (hbd : fn.body.isNone = false) (va : Array Value) (hv : args.map a.eval = va) {post : Ending → World → Prop} (hc : Calls Tryz.prog f (va ++ caps) w post)
    (hK : ∀ e w', post e w' → ∃ v, e = .returned v ∧ K (a.put o.dst v) w') : Oper.wp Tryz.prog o a w K Q := by
  have he : (execOp a.eval o).run Tryz.prog w = .ok (.enter f (va ++ caps)) w := by
    have hn' : ¬ fn.name = "runtime.NumGoroutine" := by simpa using hn
    have hbd' : ¬ fn.body = none := by intro e; rw [e] at hbd; cases hbd
    simp [execOp, ho, resolve, invoke, hx, Deferred.ofValue, callFunc, hf, hn', hbd', hv]
  unfold Oper.wp
  rw [he, Oper.upon_enter]
  refine hc.mono ?_
  intro e w' h
  obtain ⟨v, rfl, hk⟩ := hK e w' h
  exact hk

set_option maxRecDepth 100000 in
set_option maxHeartbeats 400000 in
theorem placing_any (ca pa aa qa : Option Addr) (cn cc pn pc ak az qk qc : Nat) (pol : Int) (Z : List Int) (M : List (Prt × List ByteArray)) (A : List Acc) (Q : List Qu) (w : World) (hC : CfR w ca pa aa qa cn pn ak az qk Z M A Q) :
    Calls Tryz.prog 28 #[.agg #[.slice ca cn cc, .slice pa pn pc, .slice aa ak az, .slice qa qk qc, .int .u8 pol]] w fun e w' => (∃ v, e = .returned v ∧ PlzF Z M A Q pol w' v) ∧ Below w.heap.size w w' := by
  obtain ⟨W1, hW1⟩ : ∃ W1, W1 = w.alloc (.cells #[.slice ca cn cc, .slice pa pn pc, .slice aa ak az, .slice qa qk qc, .int .u8 pol] 28) := ⟨_, rfl⟩
  have b1 : Below w.heap.size w W1 := by rw [hW1]; exact below_lit _ _
  have hB : CfB W1 w.heap.size ca pa aa qa cn cc pn pc ak az qk qc pol := by rw [hW1]; exact cfb_lit _ _ _ _ _ _ _ _ _ _ _ _ _ _
  have k1 := rating_any ca pa aa qa cn cc pn pc ak az qk qc pol Z M A Q W1 (hC.below b1)
  have v0 := hB.v0; have v1 := hB.v1; have v2 := hB.v2; have v3 := hB.v3; have v4 := hB.v4
  have hlt := World.block_lt_of_cell? W1 _ v0
  generalize hgS : w.heap.size = gS at *
  replace hgS := hid hgS
  clear hC hB
  replace hW1 := hid hW1
  replace b1 := hid b1
  go_enter Tryz.func28, Tryz.ntmps28
  go_upto_region 1 with fail
  rw [← hW1.out, hgS.out]
  go_wp2_with fail
  refine k1.mono ?_
  clear k1
  rintro e w2 ⟨⟨fv, rfl, hF⟩, h2⟩
  have hs2 : gS < w2.heap.size := by have := h2.size; omega
  have B2 := hid (b1.out.trans (h2.mono (by omega)))
  clear h2 v0 v1 v2 v3 v4 hlt b1 hW1
  have hF2 := hF
  obtain ⟨gR, gC, hfv, _⟩ := hF2
  subst hfv
  replace hF := hid hF
  go_wp2
  go_ret
  have bl := below_lit w2 (.cells #[.func (.func 37) #[] #[ptr gR, ptr gC]] 58)
  refine ⟨⟨_, rfl, w2.heap.size, rfl, by simp, fun w' hb J => ?_⟩, B2.out.trans (bl.mono (by omega))⟩
  exact plz_any w2.heap.size Z M A Q pol _ w' (stay hb (lit_cell _ _ _ _ _ rfl)) ((hF.out.below bl).below hb) J


set_option maxRecDepth 100000 in
set_option maxHeartbeats 1000000 in
theorem prio_any (ca pa aa qa : Option Addr) (cn cc pn pc ak az qk qc : Nat) (pol : Int) (Z : List Int) (M : List (Prt × List ByteArray)) (A : List Acc) (Q : List Qu) (s : Spc) (w : World) (hC0 : CfR w ca pa aa qa cn pn ak az qk Z M A Q) :
    Calls Tryz.prog 8 #[.agg #[.slice ca cn cc, .slice pa pn pc, .slice aa ak az, .slice qa qk qc, .int .u8 pol], .agg (sc s).toArray] w (PrioT (prioP Z M A Q pol s.qos s.part) w) := by
  obtain ⟨W0, hW0⟩ : ∃ W0, W0 = ((w.alloc (.cells #[.slice ca cn cc, .slice pa pn pc, .slice aa ak az, .slice qa qk qc, .int .u8 pol] 28)).alloc (.cells (sc s).toArray 32)) := ⟨_, rfl⟩
  have bl0 := below_lit w (.cells #[.slice ca cn cc, .slice pa pn pc, .slice aa ak az, .slice qa qk qc, .int .u8 pol] 28)
  have bl1 := below_lit (w.alloc (.cells #[.slice ca cn cc, .slice pa pn pc, .slice aa ak az, .slice qa qk qc, .int .u8 pol] 28)) (.cells (sc s).toArray 32)
  have bl := bnext bl0 bl1
  have c0 : W0.heap[w.heap.size]? = some (.cells #[.slice ca cn cc, .slice pa pn pc, .slice aa ak az, .slice qa qk qc, .int .u8 pol] 28 (0, 0)) := by
    rw [hW0, bl1.block _ (by rw [size_lit]; omega)]; exact heap_alloc_new w _
  have c1 : W0.heap[w.heap.size + 1]? = some (.cells (sc s).toArray 32 (0, 0)) := by
    have := heap_alloc_new (w.alloc (.cells #[.slice ca cn cc, .slice pa pn pc, .slice aa ak az, .slice qa qk qc, .int .u8 pol] 28)) (.cells (sc s).toArray 32)
    rw [size_lit] at this
    rw [hW0]; exact this
  rw [← hW0] at bl
  have hsz : W0.heap.size = w.heap.size + 1 + 1 := by rw [hW0, size_lit, size_lit]
  clear bl0 bl1
  have hC := hid (hC0.below bl)
  clear hC0
  obtain ⟨pz, hpz⟩ : ∃ pz, pz = prioP Z M A Q pol s.qos s.part := ⟨_, rfl⟩
  rw [← hpz]
  have c0lt : w.heap.size < W0.heap.size := by omega
  have c1lt : w.heap.size + 1 < W0.heap.size := by omega
  replace hpz := hid hpz
  replace c0 := hid c0
  replace c1 := hid c1
  replace bl := hid bl
  replace hW0 := hid hW0
  replace hsz := hid hsz
  go_enter Tryz.func8, Tryz.ntmps8
  go_upto_region 1 with fail
  rw [← hW0.out]
  generalize hg1 : w.heap.size + 1 = g1 at *
  generalize hg0 : w.heap.size = g0 at *
  replace hg1 := hid hg1
  replace hg0 := hid hg0
  refine wp_region_drawn (Rel := fun w w' => Below w.heap.size w w') (Pr := PrV [.agg #[.slice ca cn cc, .slice pa pn pc, .slice aa ak az, .slice qa qk qc, .int .u8 pol], undef, .agg (sc s).toArray, .tuple #[.int .i64 pz.1, .int .i64 pz.2], .int .i64 pz.1, .int .i64 pz.2, .int .i64 pz.1, .int .i64 pz.2] [1] (fun _ v w => RateF Z M A Q pol w v)) (by kernel_rfl) (by kernel_rfl) (Below.drew (Below.refl _ _)) (fun _ _ _ h k => h.trans (k.mono h.size)) (PrV.mono fun _ _ _ _ h k => h.below k) ?_ ?_
  · refine ⟨?_, ?_, ?_, ?_, ?_, ?_, ?_, ?_, trivial⟩
    · intro ac w1 hR hd hk Kx hK
      exact yes (want_n rfl) (wp_load_row 28 _ rfl g0 (get_keep (hk 2 (no_dst (by kernel_rfl))) rfl) 28 #[.slice ca cn cc, .slice pa pn pc, .slice aa ak az, .slice qa qk qc, .int .u8 pol] (0, 0) _ (by rw [hR.block _ c0lt]; exact c0.out) Tryz.underlying28 rfl (by kernel_rfl) (hK _ w1 (PrV.is rfl rfl) (Below.refl _ _)))
    · intro ac w1 hR hd hk Kx hK
      exact yes (want_n rfl) (wp_callv 24 _ _ rfl _ Tryz.func24 rfl rfl _ (args1 ((hd 0 _ 6 rfl rfl rfl).val rfl)) (rating_any ca pa aa qa cn cc pn pc ak az qk qc pol Z M A Q w1 (hC.out.below hR)) (by rintro e w2 ⟨⟨v, rfl, hF⟩, hb⟩; exact ⟨_, rfl, hK _ _ (PrV.by rfl hF) hb⟩))
    · intro ac w1 hR hd hk Kx hK
      exact yes (want_n rfl) (wp_load_row 32 _ rfl g1 (get_keep (hk 3 (no_dst (by kernel_rfl))) rfl) 32 (sc s).toArray (0, 0) _ (by rw [hR.block _ c1lt]; exact c1.out) Tryz.underlying32 rfl (by kernel_rfl) (hK _ w1 (PrV.is rfl rfl) (Below.refl _ _)))
    · intro ac w1 hR hd hk Kx hK
      obtain ⟨gR, gC, ee, _, _, hcall⟩ := (hd 1 _ 7 rfl rfl rfl).out rfl
      exact yes (want_n rfl) (wp_callq 37 (.tmp 7) _ _ #[ptr gR, ptr gC] rfl ee _ Tryz.func37 rfl rfl _ (args1 ((hd 2 _ 8 rfl rfl rfl).val rfl)) (hcall w1 (Below.refl _ _) s) (by rintro e w2 ⟨rfl, hb⟩; exact ⟨_, rfl, hK _ _ (PrV.is rfl (by rw [← hpz.out]; rfl)) hb⟩))
    · intro ac w1 hR hd hk Kx hK
      have e9 : ac.tmps[9]?.getD undef = (.tuple #[.int .i64 pz.1, .int .i64 pz.2] : Value) := slot ((hd 3 _ 9 rfl rfl rfl).val rfl)
      refine yes (want_n rfl) ?_
      have hv := hid (hK (.int .i64 pz.1) w1 (PrV.is rfl rfl) (Below.refl _ _))
      go_simp
      exact kq hv.out rfl
    · intro ac w1 hR hd hk Kx hK
      have e9 : ac.tmps[9]?.getD undef = (.tuple #[.int .i64 pz.1, .int .i64 pz.2] : Value) := slot ((hd 3 _ 9 rfl rfl rfl).val rfl)
      refine yes (want_n rfl) ?_
      have hv := hid (hK (.int .i64 pz.2) w1 (PrV.is rfl rfl) (Below.refl _ _))
      go_simp
      exact kq hv.out rfl
    · intro ac w1 hR hd hk Kx hK
      have e10 : ac.tmps[10]?.getD undef = (.int .i64 pz.1 : Value) := slot ((hd 4 _ 10 rfl rfl rfl).val rfl)
      refine yes (want_n rfl) ?_
      have hv := hid (hK (.int .i64 pz.1) w1 (PrV.is rfl rfl) (Below.refl _ _))
      go_simp
      exact kq hv.out rfl
    · intro ac w1 hR hd hk Kx hK
      have e11 : ac.tmps[11]?.getD undef = (.int .i64 pz.2 : Value) := slot ((hd 5 _ 11 rfl rfl rfl).val rfl)
      refine yes (want_n rfl) ?_
      have hv := hid (hK (.int .i64 pz.2) w1 (PrV.is rfl rfl) (Below.refl _ _))
      go_simp
      exact kq hv.out rfl
  · intro ac w1 hdf hsz2 hkp hval hRw
    obtain ⟨ff, hf⟩ : ∃ ff, ff = fun d => ac.tmps.getD d undef := ⟨_, rfl⟩
    have h4 : ff 4 = .int .i64 pz.1 := by rw [hf]; exact (hval 6 _ 4 rfl rfl).val rfl
    have h5 : ff 5 = .int .i64 pz.2 := by rw [hf]; exact (hval 7 _ 5 rfl rfl).val rfl
    have hfa := act_filled hdf hsz2 hkp
    rw [← hf] at hfa
    rw [hfa]
    clear hdf hsz2 hkp hval hfa hf
    clear ac
    simp only [fillAll, List.set_cons_zero, List.set_cons_succ, h4, h5]
    have hB := hid (bl.out.trans (hRw.mono (by omega)))
    clear hRw
    go_wp2
    go_ret2
    exact ⟨rfl, by rw [hg0.out]; exact hB.out⟩

theorem gr_below {w w' : World} (h : GR w w') : Below w.heap.size w w' := by
  obtain ⟨q, os, rfl⟩ := h
  refine ⟨rfl, rfl, rfl, by rw [Go.Sort.size_grow]; show w.heap.size ≤ w.heap.size + _; omega, fun k hk => ?_⟩
  rw [Go.Sort.heap_grow_old _ _ (by exact hk)]
  rfl

set_option maxRecDepth 100000 in
set_option maxHeartbeats 1000000 in
theorem ahead_any (ca pa aa qa : Option Addr) (cn cc pn pc ak az qk qc : Nat) (pol : Int) (Z : List Int) (M : List (Prt × List ByteArray)) (A : List Acc) (Q : List Qu) (J1 J2 : Job) (w : World) (hC0 : CfR w ca pa aa qa cn pn ak az qk Z M A Q) :
    Calls Tryz.prog 13 #[.agg #[.slice ca cn cc, .slice pa pn pc, .slice aa ak az, .slice qa qk qc, .int .u8 pol], .agg (jc J1).toArray, .agg (jc J2).toArray] w fun e w' => e = .returned (.bool (ltOf cfP (plzP Z M A Q pol J1) (plzP Z M A Q pol J2))) ∧ Below w.heap.size w w' := by
  obtain ⟨W0, hW0⟩ : ∃ W0, W0 = ((w.alloc (.cells #[.slice ca cn cc, .slice pa pn pc, .slice aa ak az, .slice qa qk qc, .int .u8 pol] 28)).alloc (.cells (jc J1).toArray 37)).alloc (.cells (jc J2).toArray 37) := ⟨_, rfl⟩
  have bl0 := below_lit w (.cells #[.slice ca cn cc, .slice pa pn pc, .slice aa ak az, .slice qa qk qc, .int .u8 pol] 28)
  have bl1 := below_lit (w.alloc (.cells #[.slice ca cn cc, .slice pa pn pc, .slice aa ak az, .slice qa qk qc, .int .u8 pol] 28)) (.cells (jc J1).toArray 37)
  have bl2 := below_lit ((w.alloc (.cells #[.slice ca cn cc, .slice pa pn pc, .slice aa ak az, .slice qa qk qc, .int .u8 pol] 28)).alloc (.cells (jc J1).toArray 37)) (.cells (jc J2).toArray 37)
  have bl := bnext (bnext bl0 bl1) bl2
  have c0 : W0.heap[w.heap.size]? = some (.cells #[.slice ca cn cc, .slice pa pn pc, .slice aa ak az, .slice qa qk qc, .int .u8 pol] 28 (0, 0)) := by
    rw [hW0, bl2.block _ (by rw [size_lit, size_lit]; omega), bl1.block _ (by rw [size_lit]; omega)]; exact heap_alloc_new w _
  have c1 : W0.heap[w.heap.size + 1]? = some (.cells (jc J1).toArray 37 (0, 0)) := by
    have := heap_alloc_new (w.alloc (.cells #[.slice ca cn cc, .slice pa pn pc, .slice aa ak az, .slice qa qk qc, .int .u8 pol] 28)) (.cells (jc J1).toArray 37)
    rw [size_lit] at this
    rw [hW0, bl2.block _ (by rw [size_lit, size_lit]; omega)]; exact this
  have c2 : W0.heap[w.heap.size + 1 + 1]? = some (.cells (jc J2).toArray 37 (0, 0)) := by
    have := heap_alloc_new ((w.alloc (.cells #[.slice ca cn cc, .slice pa pn pc, .slice aa ak az, .slice qa qk qc, .int .u8 pol] 28)).alloc (.cells (jc J1).toArray 37)) (.cells (jc J2).toArray 37)
    rw [size_lit, size_lit] at this
    rw [hW0]; exact this
  rw [← hW0] at bl
  have hsz : W0.heap.size = w.heap.size + 1 + 1 + 1 := by rw [hW0, size_lit, size_lit, size_lit]
  clear bl0 bl1 bl2
  have kP := placing_any ca pa aa qa cn cc pn pc ak az qk qc pol Z M A Q W0 (hC0.below bl)
  clear hC0
  obtain ⟨p1, hp1⟩ : ∃ p1, p1 = plzP Z M A Q pol J1 := ⟨_, rfl⟩
  obtain ⟨p2, hp2⟩ : ∃ p2, p2 = plzP Z M A Q pol J2 := ⟨_, rfl⟩
  rw [← hp1, ← hp2]
  obtain ⟨cz, hcz⟩ : ∃ cz, cz = cfP p1 p2 := ⟨_, rfl⟩
  obtain ⟨bz, hbz⟩ : ∃ bz, bz = ltOf cfP p1 p2 := ⟨_, rfl⟩
  rw [← hbz]
  have hbz2 : bz = decide (cz < 0) := by rw [hbz, hcz]; rfl
  clear hbz
  have hbz := hid hbz2
  clear hbz2
  replace hp1 := hid hp1
  replace hp2 := hid hp2
  replace hcz := hid hcz
  have y0 : W0.cell? ⟨w.heap.size, 0, none⟩ = some (.slice ca cn cc) := row_cell c0 0 _ rfl
  have y1 : W0.cell? ⟨w.heap.size, 1, none⟩ = some (.slice pa pn pc) := row_cell c0 1 _ rfl
  have y2 : W0.cell? ⟨w.heap.size, 2, none⟩ = some (.slice aa ak az) := row_cell c0 2 _ rfl
  have y3 : W0.cell? ⟨w.heap.size, 3, none⟩ = some (.slice qa qk qc) := row_cell c0 3 _ rfl
  have y4 : W0.cell? ⟨w.heap.size, 4, none⟩ = some (.int .u8 pol) := row_cell c0 4 _ rfl
  replace c0 := hid c0
  replace c1 := hid c1
  replace c2 := hid c2
  replace bl := hid bl
  replace hW0 := hid hW0
  replace hsz := hid hsz
  go_enter Tryz.func13, Tryz.ntmps13
  go_upto_region 1 with fail
  rw [← hW0.out]
  go_wp2_with fail
  refine kP.mono ?_
  clear kP
  rintro e w2 ⟨⟨fv, rfl, hF⟩, h2⟩
  obtain ⟨gF, hfv, _, hcall⟩ := hF
  have q1 := hid (show w2.heap[w.heap.size + 1]? = some (.cells (jc J1).toArray 37 (0, 0)) by rw [h2.block _ (by have := hsz.out; omega)]; exact c1.out)
  have q2 := hid (show w2.heap[w.heap.size + 1 + 1]? = some (.cells (jc J2).toArray 37 (0, 0)) by rw [h2.block _ (by have := hsz.out; omega)]; exact c2.out)
  have c0lt : w.heap.size < w2.heap.size := by have := hsz.out; have := h2.size; omega
  have c1lt : w.heap.size + 1 < w2.heap.size := by have := hsz.out; have := h2.size; omega
  have c2lt : w.heap.size + 1 + 1 < w2.heap.size := by have := hsz.out; have := h2.size; omega
  have B2 := hid (bl.out.trans (h2.mono (by have := hsz.out; omega)))
  replace hcall := hid hcall
  replace hfv := hid hfv
  clear h2 y0 y1 y2 y3 y4 c0 c1 c2 bl hW0 hsz
  have c1 := q1
  have c2 := q2
  clear q1 q2
  go_upto_region 2 with fail
  generalize hg2 : w.heap.size + 1 + 1 = g2 at *
  generalize hg1 : w.heap.size + 1 = g1 at *
  generalize hg0 : w.heap.size = g0 at *
  replace hg2 := hid hg2
  replace hg1 := hid hg1
  replace hg0 := hid hg0
  rw [hfv.out]
  refine wp_region_drawn (Rel := fun w w' => Below w.heap.size w w') (Pr := PrV [.func (.func 48) #[] #[ptr gF], .agg (jc J1).toArray, .agg #[.int .i64 p1.1, .int .i64 p1.2], .func (.func 48) #[] #[ptr gF], .agg (jc J2).toArray, .agg #[.int .i64 p2.1, .int .i64 p2.2], .int .i64 cz, .bool bz, .bool bz] [] (fun _ _ _ => True)) (by kernel_rfl) (by kernel_rfl) (Below.drew (Below.refl _ _)) (fun _ _ _ h k => h.trans (k.mono h.size)) (PrV.mono fun _ _ _ _ h k => h) ?_ ?_
  · refine ⟨?_, ?_, ?_, ?_, ?_, ?_, ?_, ?_, ?_, trivial⟩
    · intro ac w1 hR hd hk Kx hK
      exact yes (want_n rfl) (wp_mv _ rfl _ (get_keep (hk 7 (no_dst (by kernel_rfl))) rfl) (hK _ w1 (PrV.is rfl rfl) (Below.refl _ _)))
    · intro ac w1 hR hd hk Kx hK
      exact yes (want_n rfl) (wp_load_row 37 _ rfl g1 (get_keep (hk 4 (no_dst (by kernel_rfl))) rfl) 37 (jc J1).toArray (0, 0) _ (by rw [hR.block _ c1lt]; exact c1.out) Tryz.underlying37 rfl (by kernel_rfl) (hK _ w1 (PrV.is rfl rfl) (Below.refl _ _)))
    · intro ac w1 hR hd hk Kx hK
      exact yes (want_n rfl) (wp_callq 48 (.tmp 10) _ _ #[ptr gF] rfl ((hd 0 _ 10 rfl rfl rfl).val rfl) _ Tryz.func48 rfl rfl _ (args1 ((hd 1 _ 11 rfl rfl rfl).val rfl)) (hcall.out w1 hR J1) (by rintro e w2 ⟨rfl, hb⟩; exact ⟨_, rfl, hK _ _ (PrV.is rfl (by rw [← hp1.out]; rfl)) hb⟩))
    · intro ac w1 hR hd hk Kx hK
      exact yes (want_n rfl) (wp_mv _ rfl _ (get_keep (hk 7 (no_dst (by kernel_rfl))) rfl) (hK _ w1 (PrV.is rfl rfl) (Below.refl _ _)))
    · intro ac w1 hR hd hk Kx hK
      exact yes (want_n rfl) (wp_load_row 37 _ rfl g2 (get_keep (hk 5 (no_dst (by kernel_rfl))) rfl) 37 (jc J2).toArray (0, 0) _ (by rw [hR.block _ c2lt]; exact c2.out) Tryz.underlying37 rfl (by kernel_rfl) (hK _ w1 (PrV.is rfl rfl) (Below.refl _ _)))
    · intro ac w1 hR hd hk Kx hK
      exact yes (want_n rfl) (wp_callq 48 (.tmp 13) _ _ #[ptr gF] rfl ((hd 3 _ 13 rfl rfl rfl).val rfl) _ Tryz.func48 rfl rfl _ (args1 ((hd 4 _ 14 rfl rfl rfl).val rfl)) (hcall.out w1 hR J2) (by rintro e w2 ⟨rfl, hb⟩; exact ⟨_, rfl, hK _ _ (PrV.is rfl (by rw [← hp2.out]; rfl)) hb⟩))
    · intro ac w1 hR hd hk Kx hK
      exact yes (want_n rfl) (wp_callv 29 _ _ rfl _ Tryz.func29 rfl rfl _ (args2 ((hd 2 _ 12 rfl rfl rfl).val rfl) ((hd 5 _ 15 rfl rfl rfl).val rfl)) (cmp17 p1 p2 w1) (by rintro e w2 ⟨rfl, hb⟩; exact ⟨_, rfl, hK _ _ (PrV.is rfl (by rw [← hcz.out]; rfl)) (gr_below hb)⟩))
    · intro ac w1 hR hd hk Kx hK
      have e16 : ac.tmps[16]?.getD undef = (.int .i64 cz : Value) := slot ((hd 6 _ 16 rfl rfl rfl).val rfl)
      refine yes (want_n rfl) ?_
      have hv := hid (hK (.bool bz) w1 (PrV.is rfl rfl) (Below.refl _ _))
      by_cases hneg : cz < 0
      · have hbt : bz = true := by rw [hbz.out]; exact decide_eq_true hneg
        subst hbt
        go_simp
        exact kq hv.out rfl
      · have hbt : bz = false := by rw [hbz.out]; exact decide_eq_false hneg
        subst hbt
        go_simp
        exact kq hv.out rfl
    · intro ac w1 hR hd hk Kx hK
      have e17 : ac.tmps[17]?.getD undef = (.bool bz : Value) := slot ((hd 7 _ 17 rfl rfl rfl).val rfl)
      refine yes (want_n rfl) ?_
      have hv := hid (hK (.bool bz) w1 (PrV.is rfl rfl) (Below.refl _ _))
      go_simp
      exact kq hv.out rfl
  · intro ac w1 hdf hsz2 hkp hval hRw
    obtain ⟨ff, hf⟩ : ∃ ff, ff = fun d => ac.tmps.getD d undef := ⟨_, rfl⟩
    have h6 : ff 6 = .bool bz := by rw [hf]; exact (hval 8 _ 6 rfl rfl).val rfl
    have hfa := act_filled hdf hsz2 hkp
    rw [← hf] at hfa
    rw [hfa]
    clear hdf hsz2 hkp hval hfa hf
    clear ac
    simp only [fillAll, List.set_cons_zero, List.set_cons_succ, h6]
    have hB := hid (B2.out.trans (hRw.mono (by omega)))
    clear hRw
    go_wp2
    go_ret
    exact ⟨rfl, by rw [hg0.out]; exact hB.out⟩
end Go.Proofs.YtflapjehkgefdaaGreat

namespace Go.Proofs.YtflapjehkgefdaaGreat
open Go.RowKit Go.Sort Go.Shelf Go.Lib
set_option linter.unusedVariables false
set_option linter.unusedSimpArgs false

def plAt (L : List Plc) (i : Nat) : Plc := L.getD i (0, 0)
theorem plAt_eq {L : List Plc} {i : Nat} (h : i < L.length) : L[i] = plAt L i := by simp [plAt, h]
def PlAt (w : World) (a : Option Addr) (L : List Plc) : Prop := CAt w a (L.flatMap plc)
def PlOwn (w : World) (base : Nat) (v : Value) (L : List Plc) : Prop := w.ownsRow base 73 2 v L.length (L.flatMap plc)
theorem PlAt.below {w w' : World} {a : Option Addr} {C : List Plc} (h : PlAt w a C) (hb : Below w.heap.size w w') : PlAt w' a C := CAt.below h hb
theorem PlAt.place {w : World} {a : Option Addr} {C : List Plc} (h : PlAt w a C) (h0 : 0 < C.length) : ∃ b o, a = some ⟨b, o, none⟩ := flat_place plc 2 plc_len (by omega) h h0
theorem PlAt.one {w : World} {b o : Nat} {C : List Plc} (h : PlAt w (some ⟨b, o, none⟩) C) {i : Nat} (hi : i < C.length) :
    w.cell? ⟨b, o + i * 2, none⟩ = some (.int .i64 (plAt C i).1) ∧ w.cell? ⟨b, o + i * 2 + 1, none⟩ = some (.int .i64 (plAt C i).2) := by
  have k := fun r hr => flat_cell plc 2 plc_len (by omega) h hi r hr
  have k0 := k 0 (by omega)
  have k1 := k 1 (by omega)
  rw [plAt_eq hi] at k0 k1
  exact ⟨k0, k1⟩
theorem PlOwn.plat {w : World} {base n c : Nat} {a : Option Addr} {C : List Plc} (h : PlOwn w base (.slice a n c) C) : PlAt w a C := owns_cat h
theorem PlOwn.below {w w' : World} {base : Nat} {v : Value} {C : List Plc} (h : PlOwn w base v C) (hb : Below w.heap.size w w') : PlOwn w' base v C := owns_below h hb
theorem PlOwn.nil (w : World) (base : Nat) : PlOwn w base (.slice none 0 0) [] := World.ownsRow_nil _ _ _ _
theorem infoP : (Tryz.prog.info? 73).map (fun i => (i.zero, i.size, i.bytes)) = some (some (.agg #[.int .i64 0, .int .i64 0]), 2, 16) := by kernel_rfl

theorem arr_pl (l : List Plc) {i : Nat} (h : i < l.length) : l.toArray[i]! = plAt l i := by
  rw [getElem!_pos l.toArray i (by simpa using h)]
  simp [plAt, List.getD, h]
/-- A row of places of the call's own, as the sort wants it. -/
theorem own_holds {w : World} {base g n c : Nat} {l : List Plc} (h : PlOwn w base (.slice (some ⟨g, 0, none⟩) n c) l) : HoldsK plc 2 w g 0 l.toArray := by
  have hat := h.plat
  have hfz : ∀ r, w.frozen? ⟨g, r, none⟩ = false := fun r => by
    rcases h.2 with ⟨e, _⟩ | ⟨g', cap, cur, e, _, hh, _⟩
    · cases e
    · have : g' = g := by injection e with e1 e2 e3; injection e1 with e4; injection e4 with e5; exact e5.symm
      subst this
      exact row_free hh r
  intro j hj
  rw [size_flatK] at hj
  have hj2 : j < l.length * 2 := by simpa using hj
  have hi : j / 2 < l.length := by omega
  rw [get_flatK _ _ _ j hj, arr_pl l hi, Nat.zero_add]
  obtain ⟨h1, h2⟩ := hat.one hi
  rw [Nat.zero_add] at h1 h2
  refine ⟨?_, hfz j⟩
  rcases Nat.mod_two_eq_zero_or_one j with e | e
  · rw [e]
    have : j / 2 * 2 = j := by omega
    rw [this] at h1
    exact h1
  · rw [e]
    have : j / 2 * 2 + 1 = j := by omega
    rw [this] at h2
    exact h2
theorem holds_at {w : World} {g : Nat} {d : Array Plc} (h : HoldsK plc 2 w g 0 d) : ∀ i, i < d.toList.length → w.cell? ⟨g, i * 2, none⟩ = some (.int .i64 (plAt d.toList i).1) ∧ w.cell? ⟨g, i * 2 + 1, none⟩ = some (.int .i64 (plAt d.toList i).2) := by
  intro i hi
  have hd : i < d.size := by simpa using hi
  have h0 := h.cell (i := i) (c := 0) hd (by omega)
  have h1 := h.cell (i := i) (c := 1) hd (by omega)
  have e : d[i]! = plAt d.toList i := by
    have := arr_pl d.toList hi
    simpa using this
  rw [e] at h0 h1
  simp only [Nat.zero_add, Nat.add_zero] at h0 h1
  exact ⟨h0.1, h1.1⟩

theorem plat_of {w : World} {g : Nat} {S : List Plc} (h : ∀ i, i < S.length → w.cell? ⟨g, i * 2, none⟩ = some (.int .i64 (plAt S i).1) ∧ w.cell? ⟨g, i * 2 + 1, none⟩ = some (.int .i64 (plAt S i).2)) : PlAt w (some ⟨g, 0, none⟩) S := by
  intro _
  refine ⟨g, 0, rfl, fun j hj => ?_⟩
  have hlen := flat_len plc 2 plc_len S
  have hi : j / 2 < S.length := by omega
  obtain ⟨h1, h2⟩ := h (j / 2) hi
  have hg := flat_get plc 2 plc_len S (j / 2) (j % 2) hi (by omega)
  have hje : j / 2 * 2 + j % 2 = j := by omega
  rw [hje, List.getElem?_eq_getElem hj, plAt_eq hi] at hg
  rw [Nat.zero_add]
  rcases Nat.mod_two_eq_zero_or_one j with e | e
  · rw [e] at hg
    have : j / 2 * 2 = j := by omega
    rw [this] at h1
    rw [h1]
    exact hg.symm
  · rw [e] at hg
    have : j / 2 * 2 + 1 = j := by omega
    rw [this] at h2
    rw [h2]
    exact hg.symm

set_option maxHeartbeats 400000 in
theorem ins_none (p : Option Addr) (c : Nat) (fv : Value) (w : World) : Calls Tryz.prog 77 #[.slice p 0 c, .int .i64 0, .int .i64 0, fv] w fun e w' => e = .returned (.tuple #[]) ∧ w' = w := by
  go_enter Tryz.func77, Tryz.ntmps77
  go_wp2
  refine wp_loop_rounds 1 ?_
  rw [rounds_succ]
  go_wp2
  go_end0
  exact ⟨rfl, rfl⟩
set_option maxHeartbeats 400000 in
theorem stable_none (p : Option Addr) (c : Nat) (fv : Value) (w : World) : Calls Tryz.prog 68 #[.slice p 0 c, .int .i64 0, fv] w fun e w' => e = .returned (.tuple #[]) ∧ w' = w := by
  go_enter Tryz.func68, Tryz.ntmps68
  go_wp2
  refine wp_loop_rounds 1 ?_
  rw [rounds_succ]
  go_wp2_with (go_at_call 77; refine (ins_none _ _ _ _).mono ?_; rintro e w' ⟨rfl, rfl⟩)
  refine wp_loop_rounds 1 ?_
  rw [rounds_succ]
  go_wp2
  go_end0
  exact ⟨rfl, rfl⟩
theorem sort_none (p : Option Addr) (c : Nat) (fv : Value) (w : World) : Calls Tryz.prog 47 #[.slice p 0 c, fv] w fun e w' => e = .returned (.tuple #[]) ∧ w' = w := by
  go_enter Tryz.func47, Tryz.ntmps47
  go_wp2_with (go_at_call 68; refine (stable_none _ _ _ _).mono ?_; rintro e w' ⟨rfl, rfl⟩)
  go_end0
  exact ⟨rfl, rfl⟩

/-- What sorted tells: the places of L, those ahead first. -/
def SrtT (f : Job → Plc) (L : List Job) (w : World) (e : Ending) (w' : World) : Prop :=
  ∃ ra rc S, e = .returned (.slice ra L.length rc) ∧ S.length = L.length ∧ S.Perm (L.map f) ∧ S.Pairwise (fun a b => ltOf cfP b a = false) ∧ PlAt w' ra S ∧ Below w.heap.size w w'

set_option maxRecDepth 100000 in
set_option maxHeartbeats 1000000 in
theorem sorted_any (a : Option Addr) (k c : Nat) (L : List Job) (Z : List Int) (M : List (Prt × List ByteArray)) (A : List Acc) (Q : List Qu) (pol : Int) (fv : Value) (w : World) (hn : L.length = k) (hl : k ≤ 1000000) (hat : JAt w a L) (hF : PlzF Z M A Q pol w fv) :
    Calls Tryz.prog 27 #[.slice a k c, fv] w (SrtT (plzP Z M A Q pol) L w) := by
  obtain ⟨i0, hi, hz0, hz1, hz2⟩ := info_parts infoP
  obtain ⟨gF, rfl, _, hcall⟩ := hF
  obtain ⟨f, hf⟩ : ∃ f, f = plzP Z M A Q pol := ⟨_, rfl⟩
  rw [← hf]
  have hcall := hid fun (w' : World) (hb : Below w.heap.size w w') (J : Job) => show Calls Tryz.prog 48 #[.agg (jc J).toArray, ptr gF] w' fun e w2 => e = .returned (.agg #[.int .i64 (f J).1, .int .i64 (f J).2]) ∧ Below w'.heap.size w' w2 from by rw [hf]; exact hcall w' hb J
  clear hf
  replace hn := hid hn
  replace hat := hid hat
  go_enter Tryz.func27, Tryz.ntmps27
  go_wp2_with fail
  go_loopw [5, 10] (fun v i wr => ∃ j : Nat, j ≤ k ∧ i = .int .i64 (j : Int) ∧ Hid (PlOwn wr w.heap.size v ((L.take j).map f)) ∧ Below w.heap.size w wr) (fun _ i _ => k - (intOf i).toNat)
  case atStart => exact ⟨0, Nat.zero_le _, rfl, hid (PlOwn.nil _ _), Below.refl _ _⟩
  case round =>
    obtain ⟨j, hj, rfl, hown, hb⟩ := hrel
    have hlenM : Hid (((L.take j).map f).length = j) := hid (by rw [List.length_map, List.length_take]; have := hn.out; omega)
    obtain ⟨va, vc, e, hvc⟩ := owns_form hown.out
    subst e
    rw [hlenM.out] at hown hvc ⊢
    by_cases hlt : j < k
    · have hjL : j < L.length := by rw [hn.out]; exact hlt
      obtain ⟨b, o, e⟩ := hat.out.place (by omega)
      subst e
      have hcj := hid ((hat.out.below hb).range hjL)
      have hnext : Hid ((L.take (j + 1)).map f = (L.take j).map f ++ [f (jobAt L j)]) := hid (by rw [take_more hjL, List.map_append, jobAt_eq hjL]; rfl)
      generalize (L.take j).map f = D at *
      generalize jobAt L j = J at *
      have bl := below_lit wr (.cells (jc J).toArray 37)
      have B0 := bnext hb bl
      have kC := hcall.out (wr.alloc (.cells (jc J).toArray 37)) B0 J
      have hrow := hid (heap_alloc_new wr (.cells (jc J).toArray 37))
      have hown1 := hid (hown.out.below bl)
      generalize f J = X at *
      obtain ⟨X0, X1⟩ := X
      dsimp only at kC
      have hbd : (j + 1) * 16 ≤ 140737488355328 := by omega
      go_upto_region 5 with (first
        | (refine wpList_load_mid rfl 37 (.tmp 12) rfl b (o + j * 17) rfl (jc J) _ hcj.out Tryz.underlying37 rfl (by kernel_rfl) ?_)
        | (refine wpList_store_row rfl 37 (.tmp 7) (.tmp 13) rfl wr.heap.size (jc J).toArray rfl rfl 37 _ (heap_alloc_new wr _) (by kernel_rfl) rfl (jc_all _) ?_; rw [alloc_setRow]))
      go_wp2_with (refine wpList_load_row rfl 37 (.tmp 7) rfl wr.heap.size rfl 37 (jc J).toArray (0, 0) _ hrow.out Tryz.underlying37 rfl (by kernel_rfl) ?_)
      refine kC.mono ?_
      clear kC
      rintro e w1 ⟨rfl, hb1⟩
      have B1 := bnext B0 hb1
      have bl2 := below_lit w1 (.cells #[.int .i64 X0, .int .i64 X1] 73)
      have B2 := bnext B1 bl2
      have hown2 := hid ((hown1.out.below hb1).below bl2)
      have hcat := hid (cat_lit w1 73 [.int .i64 X0, .int .i64 X1] #[.int .i64 X0, .int .i64 X1] rfl)
      have hone := hid (plc_one (X0, X1))
      have hown2' : (w1.alloc (.cells #[.int .i64 X0, .int .i64 X1] 73)).ownsRow w.heap.size 73 2 (.slice va j vc) j (D.flatMap plc) := by
        have := hown2.out
        unfold PlOwn at this
        rw [hlenM.out] at this
        exact this
      replace hown2' := hid hown2'
      clear hcj hb1 bl bl2 hrow hown1
      go_wp2_with (at_builtin; refine Hid.out ?_)
      refine wpList_cat _ rfl (.tmp 14) (.tmp 18) 68 rfl w.heap.size 73 i0 _ 2 16 Tryz.underlying68 hi hz0 hz1 hz2 rfl (by omega) _ _ _ rfl hown2'.out (some ⟨w1.heap.size, 0, none⟩) 1 1 [.int .i64 X0, .int .i64 X1] rfl rfl hcat.out hone.out (by unfold maxLen; omega) hbd B2.size ?_
      intro v' w4 ho4 hg4 hv4
      have hown4 : PlOwn w4 w.heap.size v' (D ++ [(X0, X1)]) := by
        unfold PlOwn
        rw [List.length_append, hlenM.out]
        simp only [List.flatMap_append]
        exact ho4
      have B4 : Below w.heap.size w w4 := Below.grown B2 hg4 B2.size (fun j hj => (hown2'.out.lt _ hj).1)
      replace hown4 := hid hown4
      clear ho4 hg4 hv4 hcat
      go_wp2_with fail
      go_roundw
      case rel => exact ⟨j + 1, by omega, by go_num, hid (by rw [hnext.out]; exact hown4.out), B4⟩
      case measure => simp [intOf]; omega
    · have hje : j = k := by omega
      subst hje
      have hf : L.take j = L := by rw [← hn.out, List.take_length]
      rw [hf] at hown hlenM
      replace hf := hid hf
      cases va with
      | none =>
        have h0 : Hid (j = 0 ∧ vc = 0) := hid (by
          rcases hown.out.2 with ⟨e, _⟩ | ⟨g', cap, cur, e, _⟩
          · injection e with e1 e2 e3; exact ⟨e2, e3⟩
          · cases e)
        obtain ⟨rfl, rfl⟩ := h0.out
        have hLn : Hid (L = []) := hid (List.eq_nil_of_length_eq_zero hn.out)
        go_wp2_with fail
        refine (sort_none _ _ _ _).mono ?_
        rintro e w5 ⟨rfl, rfl⟩
        go_wp2
        go_ret
        rw [hLn.out]
        exact ⟨none, 0, [], rfl, rfl, List.Perm.nil, List.Pairwise.nil, CAt.nil _ _, hb⟩
      | some y =>
        have hform : Hid (∃ g, y = ⟨g, 0, none⟩ ∧ w.heap.size ≤ g ∧ g < wr.heap.size) := hid (by
          have hbk := owns_blk hown.out
          rcases hown.out.2 with ⟨e, _⟩ | ⟨g', cap, cur, e, h1, _⟩
          · cases e
          · have e2 : y = ⟨g', 0, none⟩ := by injection e with e1 e2 e3; injection e1
            subst e2
            exact ⟨g', rfl, hbk.1, hbk.2⟩)
        obtain ⟨g, rfl, hg1, hg2⟩ := hform.out
        have kS := sort_any g j vc (L.map f) wr hlenM.out (by omega) hg2 (own_holds hown.out)
        go_wp2_with fail
        refine kS.mono ?_
        clear kS
        rintro e w5 ⟨rfl, S, hp, hs, hH, hk5⟩
        have hSl : S.length = L.length := by rw [hp.length_eq, List.length_map]
        have B5 : Below w.heap.size w w5 := hb.trans ⟨hk5.os, hk5.tape, hk5.output, hk5.size, fun i hi => hk5.block i (by have := hb.size; omega) (by omega)⟩
        have hPl : PlAt w5 (some ⟨g, 0, none⟩) S := by
          have h := holds_at hH
          rw [List.toList_toArray] at h
          exact plat_of h
        go_wp2
        go_ret
        rw [hn.out] at hSl
        exact ⟨some ⟨g, 0, none⟩, vc, S, by rw [hn.out]; rfl, by rw [hn.out]; exact hSl, hp, hs, hPl, B5⟩
end Go.Proofs.YtflapjehkgefdaaGreat

namespace Go.Proofs.YtflapjehkgefdaaGreat
set_option linter.unusedVariables false
set_option linter.unusedSimpArgs false

section
variable {α : Type} (pr id : α → Int)
def aheadB (a b : α) : Bool := decide (pr b < pr a) || (decide (pr a = pr b) && decide (id a < id b))
/-- a may stand ahead of b. -/
def leQ (a b : α) : Prop := pr b < pr a ∨ (pr a = pr b ∧ id a ≤ id b)
theorem ahead_iff (a b : α) : aheadB pr id a b = true ↔ pr b < pr a ∨ (pr a = pr b ∧ id a < id b) := by
  unfold aheadB; simp
theorem ahead_no (a b : α) : aheadB pr id a b = false ↔ leQ pr id b a := by
  rw [Bool.eq_false_iff, ne_eq, ahead_iff]
  unfold leQ
  omega
theorem ahead_le {a b : α} (h : aheadB pr id a b = true) : leQ pr id a b := by
  rw [ahead_iff] at h
  unfold leQ
  omega
theorem leQ_trans {a b c : α} (h : leQ pr id a b) (k : leQ pr id b c) : leQ pr id a c := by
  unfold leQ at *; omega
/-- Of unlike ids one is ahead. -/
theorem ahead_one {a b : α} (h : id a ≠ id b) : aheadB pr id a b = !aheadB pr id b a := by
  cases h1 : aheadB pr id b a with
  | true =>
    rw [Bool.not_true, ahead_no]
    exact ahead_le pr id h1
  | false =>
    rw [ahead_no] at h1
    rw [Bool.not_false, ahead_iff]
    unfold leQ at h1
    omega
theorem ahead_trans {a b c : α} (h : aheadB pr id a b = true) (k : aheadB pr id b c = true) : aheadB pr id a c = true := by
  rw [ahead_iff] at *; omega
def SortedQ (l : List α) : Prop := l.Pairwise (leQ pr id)

/-- x put in at the place k. -/
def insAtQ (l : List α) (x : α) (k : Nat) : List α := l.take k ++ x :: l.drop k
theorem insAtQ_len (l : List α) (x : α) (k : Nat) (h : k ≤ l.length) : (insAtQ l x k).length = l.length + 1 := by unfold insAtQ; simp; omega
theorem insAtQ_end (l : List α) (x : α) : insAtQ l x l.length = l ++ [x] := by unfold insAtQ; simp
theorem insAtQ_perm (l : List α) (x : α) (k : Nat) : (insAtQ l x k).Perm (x :: l) := by
  unfold insAtQ
  refine List.perm_middle.trans ?_
  rw [List.take_append_drop]
theorem insAtQ_get (l : List α) (x : α) (k i : Nat) (hk : k ≤ l.length) : (insAtQ l x k)[i]? = if i < k then l[i]? else if i = k then some x else l[i - 1]? := by
  unfold insAtQ
  by_cases h1 : i < k
  · rw [if_pos h1, List.getElem?_append_left (by simp; omega), List.getElem?_take, if_pos h1]
  · rw [if_neg h1, List.getElem?_append_right (by simp; omega)]
    have e : (l.take k).length = k := by simp; omega
    rw [e]
    by_cases h2 : i = k
    · rw [if_pos h2, h2, Nat.sub_self]; rfl
    · rw [if_neg h2, show i - k = (i - 1 - k) + 1 by omega, List.getElem?_cons_succ, List.getElem?_drop]
      congr 1
      omega
theorem insAtQ_swap {l : List α} {x y : α} {k : Nat} (hk : k + 1 ≤ l.length) (hy : l[k]? = some y) : ((insAtQ l x (k + 1)).set (k + 1) y).set k x = insAtQ l x k := by
  apply List.ext_getElem?
  intro i
  have hl := insAtQ_len l x (k + 1) hk
  rw [List.getElem?_set, List.getElem?_set, List.length_set, hl, insAtQ_get l x (k + 1) i hk, insAtQ_get l x k i (by omega)]
  by_cases h1 : k = i
  · subst h1
    rw [if_pos rfl, if_pos (by omega), if_neg (by omega), if_pos rfl]
  · rw [if_neg h1]
    by_cases h2 : k + 1 = i
    · subst h2
      rw [if_pos rfl, if_pos (by omega), if_neg (by omega), if_neg (by omega)]
      simp only [Nat.add_sub_cancel]
      exact hy.symm
    · rw [if_neg h2]
      by_cases h3 : i < k
      · rw [if_pos (by omega), if_pos h3]
      · rw [if_neg (by omega), if_neg (by omega), if_neg h3, if_neg (by omega)]
theorem insAtQ_sorted {l : List α} {x : α} {k : Nat} (hs : SortedQ pr id l) (hk : k ≤ l.length) (h1 : ∀ i y, k ≤ i → l[i]? = some y → aheadB pr id x y = true) (h2 : ∀ y, 0 < k → l[k - 1]? = some y → aheadB pr id x y = false) : SortedQ pr id (insAtQ l x k) := by
  unfold SortedQ insAtQ at *
  have hsplit : (l.take k ++ l.drop k).Pairwise (leQ pr id) := by rw [List.take_append_drop]; exact hs
  rw [List.pairwise_append] at hsplit ⊢
  obtain ⟨p1, p2, p3⟩ := hsplit
  have hd : ∀ b ∈ l.drop k, leQ pr id x b := fun b hb => by
    obtain ⟨i, hi, rfl⟩ := List.getElem_of_mem hb
    rw [List.length_drop] at hi
    refine ahead_le pr id (h1 (k + i) _ (by omega) ?_)
    rw [List.getElem?_eq_getElem (by omega), List.getElem_drop]
  have ht : ∀ a ∈ l.take k, leQ pr id a x := fun a ha => by
    obtain ⟨i, hi, rfl⟩ := List.getElem_of_mem ha
    have hi2 : i < k := by rw [List.length_take] at hi; omega
    have hlast := (ahead_no pr id x l[k - 1]).1 (h2 _ (by omega) (List.getElem?_eq_getElem (by omega)))
    rw [List.getElem_take]
    rcases Nat.lt_or_ge i (k - 1) with h | h
    · exact leQ_trans pr id (List.pairwise_iff_getElem.1 hs i (k - 1) (by omega) (by omega) h) hlast
    · have e : i = k - 1 := by omega
      subst e
      exact hlast
  refine ⟨p1, List.pairwise_cons.2 ⟨hd, p2⟩, fun a ha b hb => ?_⟩
  rcases List.mem_cons.1 hb with rfl | hb
  · exact ht a ha
  · exact p3 a ha b hb

/-- Two sorted rows of the same jobs have the same ids. -/
theorem sorted_keys : ∀ {A B : List α}, SortedQ pr id A → SortedQ pr id B → A.Perm B → A.map (fun a => (pr a, id a)) = B.map (fun a => (pr a, id a))
  | [], B, _, _, h => by rw [List.nil_perm.1 h]
  | x :: t, [], _, _, h => absurd (List.perm_nil.1 h) (by simp)
  | x :: t, y :: u, ha, hb, h => by
    unfold SortedQ at ha hb
    have ha' := List.pairwise_cons.1 ha
    have hb' := List.pairwise_cons.1 hb
    have k1 : leQ pr id x y := by
      rcases List.mem_cons.1 (h.mem_iff.2 (List.mem_cons_self (a := y) (l := u))) with e | e
      · rw [e]; unfold leQ; omega
      · exact ha'.1 y e
    have k2 : leQ pr id y x := by
      rcases List.mem_cons.1 (h.mem_iff.1 (List.mem_cons_self (a := x) (l := t))) with e | e
      · rw [e]; unfold leQ; omega
      · exact hb'.1 x e
    have e1 : pr x = pr y := by unfold leQ at k1 k2; omega
    have e2 : id x = id y := by unfold leQ at k1 k2; omega
    -- y stands in x :: t: put it in front there
    obtain ⟨t', ht'⟩ : ∃ t', (x :: t).Perm (y :: t') ∧ SortedQ pr id t' ∧ (x :: t).map (fun a => (pr a, id a)) = (y :: t').map (fun a => (pr a, id a)) := by
      rcases List.mem_cons.1 (h.mem_iff.2 (List.mem_cons_self (a := y) (l := u))) with e | e
      · exact ⟨t, by rw [e], ha'.2, by rw [e]⟩
      · obtain ⟨p, q, hpq⟩ := List.append_of_mem e
        subst hpq
        -- all of p have the same key as x and y
        have hsame : ∀ z ∈ p, pr z = pr x ∧ id z = id x := fun z hz => by
          have z1 := ha'.1 z (by simp [hz])
          have z2 : leQ pr id z y := by
            have := List.pairwise_append.1 ha'.2
            exact this.2.2 z hz y (by simp)
          unfold leQ at z1 z2
          omega
        have hcomm : ∀ (s : List α) (v : Int × Int), (∀ z ∈ s, (pr z, id z) = v) → v :: s.map (fun a => (pr a, id a)) = s.map (fun a => (pr a, id a)) ++ [v] := by
          intro s v hs
          induction s with
          | nil => rfl
          | cons z r ih =>
            rw [List.map_cons, List.cons_append, ← ih (fun w hw => hs w (by simp [hw])), hs z (by simp)]
        refine ⟨x :: p ++ q, ?_, ?_, ?_⟩
        · refine List.Perm.trans (List.Perm.cons x List.perm_middle) (List.Perm.swap _ _ _)
        · unfold SortedQ
          refine List.Pairwise.sublist ?_ ha
          rw [List.cons_append]
          exact (List.Sublist.cons_cons x ((List.Sublist.refl p).append (List.sublist_cons_self y q)))
        · have h1 : (pr y, id y) = (pr x, id x) := by rw [e1, e2]
          simp only [List.map_cons, List.map_append, List.cons_append]
          rw [h1]
          congr 1
          have := hcomm p (pr x, id x) (fun z hz => by rw [(hsame z hz).1, (hsame z hz).2])
          rw [List.append_cons, ← this]
          rfl
    obtain ⟨q1, q2, q3⟩ := ht'
    rw [q3, List.map_cons, List.map_cons]
    congr 1
    exact sorted_keys q2 hb'.2 ((List.perm_cons y).1 (q1.symm.trans h))
theorem sorted_ids {A B : List α} (ha : SortedQ pr id A) (hb : SortedQ pr id B) (h : A.Perm B) : A.map id = B.map id := by
  have := congrArg (List.map Prod.snd) (sorted_keys pr id ha hb h)
  rw [List.map_map, List.map_map] at this
  exact this

/-- q is a queue of those of L that are pending. -/
def IsQ (pend : α → Bool) (L : List α) (q : List Int) : Prop := ∃ S, S.Perm (L.filter pend) ∧ SortedQ pr id S ∧ q = S.map id
variable {pend : α → Bool} {L L' : List α} {q q' : List Int}
theorem IsQ.uniq (h : IsQ pr id pend L q) (h' : IsQ pr id pend L q') : q' = q := by
  obtain ⟨S, h1, h2, rfl⟩ := h
  obtain ⟨S', h1', h2', rfl⟩ := h'
  exact sorted_ids pr id h2' h2 (h1'.trans h1.symm)
theorem IsQ.perm (h : IsQ pr id pend L q) (hp : L.Perm L') : IsQ pr id pend L' q := by
  obtain ⟨S, h1, h2, h3⟩ := h
  exact ⟨S, h1.trans (hp.filter pend), h2, h3⟩
theorem IsQ.len (h : IsQ pr id pend L q) : q.length = (L.filter pend).length := by
  obtain ⟨S, h1, _, rfl⟩ := h
  rw [List.length_map, h1.length_eq]
theorem IsQ.mem (h : IsQ pr id pend L q) {n : Int} (hn : n ∈ q) : ∃ j ∈ L, pend j = true ∧ id j = n := by
  obtain ⟨S, h1, _, rfl⟩ := h
  obtain ⟨j, hj, e⟩ := List.mem_map.1 hn
  have := List.mem_filter.1 (h1.mem_iff.1 hj)
  exact ⟨j, this.1, this.2, e⟩
/-- Unlike ids. -/
def Unlike (L : List α) : Prop := L.Pairwise (fun a b => id a ≠ id b)
theorem unlike_perm (h : Unlike id L) (hp : L.Perm L') : Unlike id L' := (hp.pairwise_iff (fun e k => e k.symm)).1 h
theorem unlike_filter (h : Unlike id L) : Unlike id (L.filter pend) := List.Pairwise.sublist List.filter_sublist h
theorem IsQ.ahead (h : IsQ pr id pend L q) (hu : Unlike id L) : ∃ S : List α, q = S.map id ∧ (∀ j ∈ S, j ∈ L ∧ pend j = true) ∧ S.Pairwise (fun a b => id a ≠ id b ∧ aheadB pr id a b = true ∧ aheadB pr id b a = false) := by
  obtain ⟨S, h1, h2, rfl⟩ := h
  have hu2 : Unlike id S := unlike_perm id (unlike_filter (pend := pend) id hu) h1.symm
  refine ⟨S, rfl, fun j hj => List.mem_filter.1 (h1.mem_iff.1 hj), ?_⟩
  unfold Unlike at hu2
  unfold SortedQ at h2
  refine (hu2.and h2).imp fun {a b} hab => ?_
  have h3 := (ahead_no pr id b a).2 hab.2
  exact ⟨hab.1, by rw [ahead_one pr id hab.1, h3]; rfl, h3⟩
/-- The queue without the first one of the list. -/
theorem IsQ.less {x : α} (h : IsQ pr id pend (x :: L) q) (hu : Unlike id (x :: L)) : IsQ pr id pend L (q.filter (fun n => decide (n ≠ id x))) := by
  obtain ⟨S, h1, h2, rfl⟩ := h
  refine ⟨S.filter (fun j => decide (id j ≠ id x)), ?_, h2.sublist List.filter_sublist, ?_⟩
  · refine (h1.filter _).trans ?_
    unfold Unlike at hu
    have hu' := List.pairwise_cons.1 hu
    have hall : (L.filter pend).filter (fun j => decide (id j ≠ id x)) = L.filter pend := by
      rw [List.filter_eq_self]
      intro j hj
      have := hu'.1 j (List.mem_filter.1 hj).1
      simpa using fun e => this e.symm
    rw [List.filter_cons]
    split
    · rw [List.filter_cons, if_neg (by simp), hall]
    · rw [hall]
  · rw [List.filter_map]
    rfl
end
end Go.Proofs.YtflapjehkgefdaaGreat

namespace Go.Proofs.YtflapjehkgefdaaGreat
open Go.RowKit
set_option linter.unusedVariables false
set_option linter.unusedSimpArgs false

theorem perm_map_inv {α β : Type} (f : α → β) {S T : List β} (h : S.Perm T) : ∀ {l : List α}, T = l.map f → ∃ l' : List α, l'.Perm l ∧ S = l'.map f := by
  induction h with
  | nil =>
    intro l e
    cases l with
    | nil => exact ⟨[], List.Perm.nil, rfl⟩
    | cons => cases e
  | cons x _ ih =>
    intro l e
    cases l with
    | nil => cases e
    | cons y t =>
      injection e with e1 e2
      obtain ⟨l', hp, hs⟩ := ih e2
      exact ⟨y :: l', hp.cons y, by rw [hs, e1]; rfl⟩
  | swap x y t =>
    intro l e
    match l, e with
    | u :: v :: r, e =>
      injection e with e1 e2
      injection e2 with e2 e3
      exact ⟨v :: u :: r, List.Perm.swap _ _ _, by rw [e1, e2, e3]; rfl⟩
  | trans _ _ ih1 ih2 =>
    intro l e
    obtain ⟨l2, hp2, e2⟩ := ih2 e
    obtain ⟨l1, hp1, e1⟩ := ih1 e2
    exact ⟨l1, hp1.trans hp2, e1⟩

/-- Is it pending? -/
def pend (J : Job) : Bool := decide (J.st = 1)
/-- A job's priority for the queue. -/
def prQ (Z : List Int) (M : List (Prt × List ByteArray)) (A : List Acc) (Q : List Qu) (pol : Int) (J : Job) : Int := (prioP Z M A Q pol J.s.qos J.s.part).1
theorem ahead_plz (Z : List Int) (M : List (Prt × List ByteArray)) (A : List Acc) (Q : List Qu) (pol : Int) (a b : Job) : ltOf cfP (plzP Z M A Q pol a) (plzP Z M A Q pol b) = aheadB (prQ Z M A Q pol) (·.id) a b := by
  rw [lt_cf]; rfl
theorem isq_of {Z : List Int} {M : List (Prt × List ByteArray)} {A : List Acc} {Q : List Qu} {pol : Int} {L : List Job} {S : List Plc} (hp : S.Perm ((L.filter pend).map (plzP Z M A Q pol))) (hs : S.Pairwise (fun a b => ltOf cfP b a = false)) :
    IsQ (prQ Z M A Q pol) (·.id) pend L (S.map (·.2)) := by
  obtain ⟨l', hl, rfl⟩ := perm_map_inv _ hp rfl
  refine ⟨l', hl, ?_, ?_⟩
  · rw [List.pairwise_map] at hs
    exact hs.imp fun {a b} h => by rw [ahead_plz, ahead_no] at h; exact h
  · rw [List.map_map]; rfl

/-- What Queue tells. -/
def QueT (pr : Job → Int) (L : List Job) (w : World) (e : Ending) (w' : World) : Prop :=
  ∃ ra rc q, e = .returned (.slice ra (List.length q) rc) ∧ IsQ pr (·.id) pend L q ∧ IAt w' ra q ∧ List.length q ≤ rc ∧ Below w.heap.size w w'

theorem filter_take {L : List Job} {j : Nat} (h : j < L.length) : (L.take (j + 1)).filter pend = (L.take j).filter pend ++ (if pend (jobAt L j) then [jobAt L j] else []) := by
  rw [take_more h, List.filter_append, jobAt_eq h, List.filter_cons]
  rfl
set_option maxRecDepth 100000 in
set_option maxHeartbeats 2000000 in
theorem queue_any (ca pa aa qa : Option Addr) (cn cc pn pc ak az qk qc : Nat) (pol : Int) (Z : List Int) (M : List (Prt × List ByteArray)) (A : List Acc) (Q : List Qu) (a : Option Addr) (k c : Nat) (L : List Job) (w : World) (hC0 : CfR w ca pa aa qa cn pn ak az qk Z M A Q) (hn : L.length = k) (hl : k ≤ 100000) (hat0 : JAt w a L) :
    Calls Tryz.prog 11 #[.agg #[.slice ca cn cc, .slice pa pn pc, .slice aa ak az, .slice qa qk qc, .int .u8 pol], .slice a k c] w (QueT (prQ Z M A Q pol) L w) := by
  obtain ⟨i0, hi, hz0, hz1, hz2⟩ := info_parts info53
  obtain ⟨i3, hi3, hy0, hy1, hy2⟩ := info_parts info3
  obtain ⟨W1, hW1⟩ : ∃ W1, W1 = w.alloc (.cells #[.slice ca cn cc, .slice pa pn pc, .slice aa ak az, .slice qa qk qc, .int .u8 pol] 28) := ⟨_, rfl⟩
  have b1 : Below w.heap.size w W1 := by rw [hW1]; exact below_lit _ _
  have hrowC : W1.heap[w.heap.size]? = some (.cells #[.slice ca cn cc, .slice pa pn pc, .slice aa ak az, .slice qa qk qc, .int .u8 pol] 28 (0, 0)) := by rw [hW1]; exact heap_alloc_new w _
  have hsz1 : W1.heap.size = w.heap.size + 1 := by rw [hW1, size_lit]
  have hC := hid (hC0.below b1)
  have hat := hid (hat0.below b1)
  clear hC0 hat0
  generalize hgS : w.heap.size = gS at *
  replace hgS := hid hgS
  replace hrowC := hid hrowC
  replace hsz1 := hid hsz1
  replace hn := hid hn
  replace b1 := hid b1
  replace hW1 := hid hW1
  go_enter Tryz.func11, Tryz.ntmps11
  go_upto_region 1 with fail
  rw [← hW1.out, hgS.out]
  go_wp2_with fail
  go_loopw [5, 13] (fun v i wr => ∃ j : Nat, j ≤ k ∧ i = .int .i64 (j : Int) ∧ Hid (wr.ownsRow W1.heap.size 37 17 v ((L.take j).filter pend).length (((L.take j).filter pend).flatMap jc)) ∧ Below W1.heap.size W1 wr) (fun _ i _ => k - (intOf i).toNat)
  case atStart => exact ⟨0, Nat.zero_le _, rfl, hid (World.ownsRow_nil _ _ _ _), Below.refl _ _⟩
  case round =>
    obtain ⟨j, hj, rfl, hown, hb⟩ := hrel
    obtain ⟨va, vc, e, hvc⟩ := owns_form hown.out
    subst e
    have hlenD : Hid (((L.take j).filter pend).length ≤ j) := hid (by have := List.length_filter_le pend (L.take j); have := List.length_take (i := j) (l := L); omega)
    by_cases hlt : j < k
    · have hjL : j < L.length := by rw [hn.out]; exact hlt
      obtain ⟨b, o, e⟩ := hat.out.place (by omega)
      subst e
      have hcj := hid ((hat.out.below hb).range hjL)
      have hnext := hid (filter_take hjL)
      generalize (L.take j).filter pend = D at *
      obtain ⟨n, hnD⟩ : ∃ n, D.length = n := ⟨_, rfl⟩
      rw [hnD] at hown hvc hlenD ⊢
      replace hnD := hid hnD
      have hnj := hlenD.out
      generalize jobAt L j = J at *
      have bl := below_lit wr (.cells (jc J).toArray 37)
      have B0 := bnext hb bl
      have hrow := heap_alloc_new wr (.cells (jc J).toArray 37)
      have hst : (wr.alloc (.cells (jc J).toArray 37)).cell? ⟨wr.heap.size, 11, none⟩ = some (.int .u8 J.st) := row_cell hrow 11 _ rfl
      replace hrow := hid hrow
      have hown1 := hid (owns_below hown.out bl)
      by_cases hp : J.st = 1
      · have hpn : Hid ((L.take (j + 1)).filter pend = D ++ [J]) := hid (by rw [hnext.out, if_pos (show pend J = true from decide_eq_true hp)])
        have dst : (J.st == 1) = true := by rw [hp]; rfl
        replace hp := hid hp
        have hcat0 := cat_lit (wr.alloc (.cells (jc J).toArray 37)) 37 (jc J) (jc J).toArray rfl
        rw [size_lit] at hcat0
        have hcat := hid hcat0
        clear hcat0
        have hone := hid (jc_one J)
        have bl2 := below_lit (wr.alloc (.cells (jc J).toArray 37)) (.cells (jc J).toArray 37)
        have B2 := bnext B0 bl2
        have hown2 := hid (owns_below hown1.out bl2)
        clear bl bl2
        go_upto_region 5 with (first
          | (refine wpList_load_mid rfl 37 (.tmp 15) rfl b (o + j * 17) rfl (jc J) _ hcj.out Tryz.underlying37 rfl (by kernel_rfl) ?_)
          | (refine wpList_store_row rfl 37 (.tmp 7) (.tmp 16) rfl wr.heap.size (jc J).toArray rfl rfl 37 _ (heap_alloc_new wr _) (by kernel_rfl) rfl (jc_all _) ?_; rw [alloc_setRow]))
        go_wp2_with (first
          | (refine wpList_load_row rfl 37 (.tmp 7) rfl wr.heap.size rfl 37 (jc J).toArray (0, 0) _ hrow.out Tryz.underlying37 rfl (by kernel_rfl) ?_)
          | (refine wpList_one rfl 29 37 (.tmp 21) rfl (jc J).toArray 17 i0 _ Tryz.underlying29 hi hz0 hz1 (by omega) (by omega) rfl rfl ?_)
          | (at_builtin; refine Hid.out ?_))
        refine wpList_cat _ rfl (.tmp 20) (.tmp 22) 29 rfl W1.heap.size 37 i0 _ 17 184 Tryz.underlying29 hi hz0 hz1 hz2 rfl (by omega) _ _ _ rfl hown2.out (some ⟨wr.heap.size + 1, 0, none⟩) 1 1 (jc J) rfl rfl hcat.out hone.out (by unfold maxLen; omega) (by omega) B2.size ?_
        intro v' w4 ho4 hg4 hv4
        have hown4 : w4.ownsRow W1.heap.size 37 17 v' (D ++ [J]).length ((D ++ [J]).flatMap jc) := by
          rw [List.length_append, hnD.out]
          simp only [List.flatMap_append]
          have : [J].flatMap jc = jc J := by simp
          rw [this]
          exact ho4
        have B4 : Below W1.heap.size W1 w4 := Below.grown B2 hg4 B2.size (fun j hj => (hown2.out.lt _ hj).1)
        replace hown4 := hid hown4
        clear ho4 hg4 hv4 hcat hst
        go_wp2_with fail
        go_roundw
        case rel => exact ⟨j + 1, by omega, by go_num, hid (by rw [hpn.out]; exact hown4.out), B4⟩
        case measure => simp [intOf]; omega
      · have hpn : Hid ((L.take (j + 1)).filter pend = D) := hid (by rw [hnext.out, if_neg (by unfold pend; simpa using hp), List.append_nil])
        have dst : (J.st == 1) = false := beq_eq_false_iff_ne.2 hp
        replace hp := hid hp
        go_upto_region 5 with (first
          | (refine wpList_load_mid rfl 37 (.tmp 15) rfl b (o + j * 17) rfl (jc J) _ hcj.out Tryz.underlying37 rfl (by kernel_rfl) ?_)
          | (refine wpList_store_row rfl 37 (.tmp 7) (.tmp 16) rfl wr.heap.size (jc J).toArray rfl rfl 37 _ (heap_alloc_new wr _) (by kernel_rfl) rfl (jc_all _) ?_; rw [alloc_setRow]))
        have hown3 : (wr.alloc (.cells (jc J).toArray 37)).ownsRow W1.heap.size 37 17 (.slice va n vc) D.length (D.flatMap jc) := by rw [hnD.out]; exact hown1.out
        replace hown3 := hid hown3
        clear hcj bl
        go_wp2_with fail
        go_roundw
        case rel => exact ⟨j + 1, by omega, by go_num, hid (by rw [hpn.out]; exact hown3.out), B0⟩
        case measure => simp [intOf]; omega
    · have hje : j = k := by omega
      subst hje
      have hf : Hid (L.take j = L) := hid (by rw [← hn.out, List.take_length])
      rw [hf.out] at hown hvc hlenD ⊢
      obtain ⟨D, hD⟩ : ∃ D, D = L.filter pend := ⟨_, rfl⟩
      rw [← hD] at hown hvc hlenD ⊢
      obtain ⟨n, hnD⟩ : ∃ n, D.length = n := ⟨_, rfl⟩
      rw [hnD] at hown hvc hlenD ⊢
      have hDat : JAt wr va D := owns_cat hown.out
      replace hD := hid hD
      replace hnD := hid hnD
      have hnj := hlenD.out
      have kP := placing_any ca pa aa qa cn cc pn pc ak az qk qc pol Z M A Q wr (hC.out.below hb)
      have hrowC2 := hid (show wr.heap[gS]? = _ from (hb.block _ (by have := hsz1.out; omega)).trans hrowC.out)
      replace hDat := hid hDat
      go_wp2_with (refine wpList_load_row rfl 28 (.tmp 2) rfl gS rfl 28 #[.slice ca cn cc, .slice pa pn pc, .slice aa ak az, .slice qa qk qc, .int .u8 pol] (0, 0) _ hrowC2.out Tryz.underlying28 rfl (by kernel_rfl) ?_)
      refine kP.mono ?_
      clear kP
      rintro e w2 ⟨⟨fv, rfl, hF⟩, h2⟩
      have kS := sorted_any va n vc D Z M A Q pol fv w2 hnD.out (by omega) (hDat.out.below h2) hF
      have B2 := hid (hb.trans (h2.mono hb.size))
      clear h2 hF
      go_wp2_with fail
      refine kS.mono ?_
      clear kS
      rintro e w3 ⟨sa, sc', S, rfl, hSl, hSp, hSs, hSat, h3⟩
      have B3 := hid (B2.out.trans (h3.mono B2.out.size))
      rw [hnD.out] at hSl ⊢
      have hq : Hid (IsQ (prQ Z M A Q pol) (·.id) pend L (S.map (·.2))) := hid (isq_of (by rw [← hD.out]; exact hSp) hSs)
      replace hSl := hid hSl
      replace hSat := hid hSat
      clear h3 hSp hSs
      go_wp2_with fail
      go_loopw [8, 30] (fun v i wr => ∃ j : Nat, j ≤ n ∧ i = .int .i64 (j : Int) ∧ Hid (IOwn wr w3.heap.size v ((S.take j).map (·.2))) ∧ Below w3.heap.size w3 wr) (fun _ i _ => n - (intOf i).toNat)
      case atStart => exact ⟨0, Nat.zero_le _, rfl, hid (IOwn.nil _ _), Below.refl _ _⟩
      case round =>
        rename World => wr2
        obtain ⟨t, ht, rfl, hown2, hbt⟩ := hrel
        have hlenI : Hid (((S.take t).map (·.2)).length = t) := hid (by rw [List.length_map, List.length_take]; have := hSl.out; omega)
        obtain ⟨xa, xc, e, hxc⟩ := owns_form hown2.out
        subst e
        rw [hlenI.out] at hown2 hxc ⊢
        by_cases hlt2 : t < n
        · have htS : t < S.length := by rw [hSl.out]; exact hlt2
          obtain ⟨b, o, e⟩ := hSat.out.place (by omega)
          subst e
          obtain ⟨x0, x1⟩ := (hSat.out.below hbt).one htS
          have hnext2 : Hid ((S.take (t + 1)).map (·.2) = (S.take t).map (·.2) ++ [(plAt S t).2]) := hid (by rw [take_more htS, List.map_append, plAt_eq htS]; rfl)
          generalize (S.take t).map (·.2) = I at *
          generalize plAt S t = X at *
          obtain ⟨X0, X1⟩ := X
          dsimp only at *
          have bl := below_lit wr2 (.cells #[.int .i64 X0, .int .i64 X1] 73)
          have B5 := bnext hbt bl
          have bl2 := below_lit (wr2.alloc (.cells #[.int .i64 X0, .int .i64 X1] 73)) (.cells #[.int .i64 X1] 3)
          have B6 := bnext B5 bl2
          have hown5 := hid ((hown2.out.below bl).below bl2)
          have hcat0 := cat_lit (wr2.alloc (.cells #[.int .i64 X0, .int .i64 X1] 73)) 3 [.int .i64 X1] #[.int .i64 X1] rfl
          rw [size_lit] at hcat0
          have hcat := hid hcat0
          clear hcat0
          have hone := hid (one_I X1)
          have hown5' : ((wr2.alloc (.cells #[.int .i64 X0, .int .i64 X1] 73)).alloc (.cells #[.int .i64 X1] 3)).ownsRow w3.heap.size 3 1 (.slice xa t xc) t (I.flatMap ic) := by
            have := hown5.out
            unfold IOwn at this
            rw [hlenI.out] at this
            exact this
          replace hown5' := hid hown5'
          clear bl bl2
          go_wp2_with (at_builtin; refine Hid.out ?_)
          refine wpList_cat _ rfl (.tmp 34) (.tmp 37) 22 rfl w3.heap.size 3 i3 _ 1 8 Tryz.underlying22 hi3 hy0 hy1 hy2 rfl (by omega) _ _ _ rfl hown5'.out (some ⟨wr2.heap.size + 1, 0, none⟩) 1 1 [.int .i64 X1] rfl rfl hcat.out hone.out (by unfold maxLen; omega) (by omega) B6.size ?_
          intro v' w4 ho4 hg4 hv4
          have hown6 : IOwn w4 w3.heap.size v' (I ++ [X1]) := by
            unfold IOwn
            rw [List.length_append, hlenI.out]
            simp only [List.flatMap_append]
            exact ho4
          have B7 : Below w3.heap.size w3 w4 := Below.grown B6 hg4 B6.size (fun j hj => (hown5'.out.lt _ hj).1)
          replace hown6 := hid hown6
          clear ho4 hg4 hv4 hcat
          go_wp2_with fail
          go_roundw
          case rel => exact ⟨t + 1, by omega, by go_num, hid (by rw [hnext2.out]; exact hown6.out), B7⟩
          case measure => simp [intOf]; omega
        · have hte : t = n := by omega
          subst hte
          have hf2 : Hid (S.take t = S) := hid (by rw [← hSl.out, List.take_length])
          rw [hf2.out] at hown2
          go_wp2
          go_ret
          refine ⟨xa, xc, S.map (·.2), by rw [List.length_map, hSl.out]; rfl, hq.out, hown2.out.iat, by rw [List.length_map, hSl.out]; exact hxc, ?_⟩
          rw [hgS.out]
          exact b1.out.trans ((B3.out.trans (hbt.mono B3.out.size)).mono (by have := hsz1.out; omega))
end Go.Proofs.YtflapjehkgefdaaGreat
