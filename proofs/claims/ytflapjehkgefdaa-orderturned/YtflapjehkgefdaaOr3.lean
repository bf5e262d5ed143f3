/- order: placing, Prio, Ahead. -/
import Derived.Test.YtflapjehkgefdaaOr2
import Derived.Laws.EntriesVeiled
namespace Go.Proofs.Ytflapjehkgefdaa
open Go.RowKit
set_option linter.unusedVariables false
set_option linter.unusedSimpArgs false

theorem wp_callq {Q : Exit → Act → World → Prop} {a : Act} {w : World} {K : Act → World → Prop} {o : Oper} (f : FuncId) (x : Operand) (args : Array Operand) (tys : Array TypeId) (caps : Array Value)
    (ho : o.op = .call { callee := .value x, args := args, argTypes := tys }) (hx : a.eval x = .func (.func f) #[] caps) (fn : Func) (hf : Try.prog.funcs[f]? = some fn) (hn : (fn.name == "runtime.NumGoroutine") = false) (hbd : fn.body.isNone = false) (va : Array Value) (hv : args.map a.eval = va) {post : Ending → World → Prop} (hc : Calls Try.prog f (va ++ caps) w post)
    (hK : ∀ e w', post e w' → ∃ v, e = .returned v ∧ K (a.put o.dst v) w') : Oper.wp Try.prog o a w K Q := by
  have he : (execOp a.eval o).run Try.prog w = .ok (.enter f (va ++ caps)) w := by
    have hn' : ¬ fn.name = "runtime.NumGoroutine" := by simpa using hn
    have hbd' : ¬ fn.body = none := by intro e; rw [e] at hbd; cases hbd
    simp [execOp, ho, resolve, invoke, hx, Deferred.ofValue, callFunc, hf, hn', hbd', hv]
  unfold Oper.wp
  rw [he, Oper.upon_enter]
  refine hc.mono ?_
  intro e w' h
  obtain ⟨v, rfl, hk⟩ := hK e w' h
  exact hk

set_option maxRecDepth 100000 in
set_option maxHeartbeats 400000 in
theorem placing_any (ca pa aa qa : Option Addr) (cn cc pn pc ak az qk qc : Nat) (pol : Int) (Z : List Int) (M : List (Prt × List ByteArray)) (A : List Acc) (Q : List Qu) (w : World) (hC : CfR w ca pa aa qa cn pn ak az qk Z M A Q) :
    Calls Try.prog 16 #[.agg #[.slice ca cn cc, .slice pa pn pc, .slice aa ak az, .slice qa qk qc, .int .u8 pol]] w fun e w' => (∃ v, e = .returned v ∧ PlzF Z M A Q pol w' v) ∧ Below w.heap.size w w' := by
  obtain ⟨W1, hW1⟩ : ∃ W1, W1 = w.alloc (.cells #[.slice ca cn cc, .slice pa pn pc, .slice aa ak az, .slice qa qk qc, .int .u8 pol] 28) := ⟨_, rfl⟩
  have b1 : Below w.heap.size w W1 := by rw [hW1]; exact below_lit _ _
  have hB : CfB W1 w.heap.size ca pa aa qa cn cc pn pc ak az qk qc pol := by rw [hW1]; exact cfb_lit _ _ _ _ _ _ _ _ _ _ _ _ _ _
  have k1 := rating_any ca pa aa qa cn cc pn pc ak az qk qc pol Z M A Q W1 (hC.below b1)
  have v0 := hB.v0; have v1 := hB.v1; have v2 := hB.v2; have v3 := hB.v3; have v4 := hB.v4
  have hlt := World.block_lt_of_cell? W1 _ v0
  generalize hgS : w.heap.size = gS at *
  replace hgS := hid hgS
  clear hC hB
  replace hW1 := hid hW1
  replace b1 := hid b1
  go_enter Try.func16, Try.ntmps16
  go_upto_region 1 with fail
  rw [← hW1.out, hgS.out]
  go_wp2_with fail
  refine k1.mono ?_
  clear k1
  rintro e w2 ⟨⟨fv, rfl, hF⟩, h2⟩
  have hs2 : gS < w2.heap.size := by have := h2.size; omega
  have B2 := hid (b1.out.trans (h2.mono (by omega)))
  clear h2 v0 v1 v2 v3 v4 hlt b1 hW1
  have hF2 := hF
  obtain ⟨gR, gC, hfv, _⟩ := hF2
  subst hfv
  replace hF := hid hF
  go_wp2
  go_ret
  have bl := below_lit w2 (.cells #[.func (.func 26) #[] #[ptr gR, ptr gC]] 62)
  refine ⟨⟨_, rfl, w2.heap.size, rfl, by simp, fun w' hb J => ?_⟩, B2.out.trans (bl.mono (by omega))⟩
  exact plz_any w2.heap.size Z M A Q pol _ w' (stay hb (lit_cell _ _ _ _ _ rfl)) ((hF.out.below bl).below hb) J


set_option maxRecDepth 100000 in
set_option maxHeartbeats 1000000 in
theorem prio_any (ca pa aa qa : Option Addr) (cn cc pn pc ak az qk qc : Nat) (pol : Int) (Z : List Int) (M : List (Prt × List ByteArray)) (A : List Acc) (Q : List Qu) (s : Spc) (w : World) (hC0 : CfR w ca pa aa qa cn pn ak az qk Z M A Q) :
    Calls Try.prog 13 #[.agg #[.slice ca cn cc, .slice pa pn pc, .slice aa ak az, .slice qa qk qc, .int .u8 pol], .agg (sc s).toArray] w (PrioT (prioP Z M A Q pol s.qos s.part) w) := by
  obtain ⟨W0, hW0⟩ : ∃ W0, W0 = ((w.alloc (.cells #[.slice ca cn cc, .slice pa pn pc, .slice aa ak az, .slice qa qk qc, .int .u8 pol] 28)).alloc (.cells (sc s).toArray 35)) := ⟨_, rfl⟩
  have bl0 := below_lit w (.cells #[.slice ca cn cc, .slice pa pn pc, .slice aa ak az, .slice qa qk qc, .int .u8 pol] 28)
  have bl1 := below_lit (w.alloc (.cells #[.slice ca cn cc, .slice pa pn pc, .slice aa ak az, .slice qa qk qc, .int .u8 pol] 28)) (.cells (sc s).toArray 35)
  have bl := bnext bl0 bl1
  have c0 : W0.heap[w.heap.size]? = some (.cells #[.slice ca cn cc, .slice pa pn pc, .slice aa ak az, .slice qa qk qc, .int .u8 pol] 28 (0, 0)) := by
    rw [hW0, bl1.block _ (by rw [size_lit]; omega)]; exact heap_alloc_new w _
  have c1 : W0.heap[w.heap.size + 1]? = some (.cells (sc s).toArray 35 (0, 0)) := by
    have := heap_alloc_new (w.alloc (.cells #[.slice ca cn cc, .slice pa pn pc, .slice aa ak az, .slice qa qk qc, .int .u8 pol] 28)) (.cells (sc s).toArray 35)
    rw [size_lit] at this
    rw [hW0]; exact this
  rw [← hW0] at bl
  have hsz : W0.heap.size = w.heap.size + 1 + 1 := by rw [hW0, size_lit, size_lit]
  clear bl0 bl1
  have hC := hid (hC0.below bl)
  clear hC0
  obtain ⟨pz, hpz⟩ : ∃ pz, pz = prioP Z M A Q pol s.qos s.part := ⟨_, rfl⟩
  rw [← hpz]
  have c0lt : w.heap.size < W0.heap.size := by omega
  have c1lt : w.heap.size + 1 < W0.heap.size := by omega
  replace hpz := hid hpz
  replace c0 := hid c0
  replace c1 := hid c1
  replace bl := hid bl
  replace hW0 := hid hW0
  replace hsz := hid hsz
  go_enter Try.func13, Try.ntmps13
  go_upto_region 1 with fail
  rw [← hW0.out]
  generalize hg1 : w.heap.size + 1 = g1 at *
  generalize hg0 : w.heap.size = g0 at *
  replace hg1 := hid hg1
  replace hg0 := hid hg0
  refine wp_region_drawn (Rel := fun w w' => Below w.heap.size w w') (Pr := PrV [.agg #[.slice ca cn cc, .slice pa pn pc, .slice aa ak az, .slice qa qk qc, .int .u8 pol], undef, .agg (sc s).toArray, .tuple #[.int .i64 pz.1, .int .i64 pz.2], .int .i64 pz.1, .int .i64 pz.2, .int .i64 pz.1, .int .i64 pz.2] [1] (fun _ v w => RateF Z M A Q pol w v)) (by kernel_rfl) (by kernel_rfl) (Below.drew (Below.refl _ _)) (fun _ _ _ h k => h.trans (k.mono h.size)) (PrV.mono fun _ _ _ _ h k => h.below k) ?_ ?_
  · refine ⟨?_, ?_, ?_, ?_, ?_, ?_, ?_, ?_, trivial⟩
    · intro ac w1 hR hd hk Kx hK
      exact yes (want_n rfl) (wp_load_row 28 _ rfl g0 (get_keep (hk 2 (no_dst (by kernel_rfl))) rfl) 28 #[.slice ca cn cc, .slice pa pn pc, .slice aa ak az, .slice qa qk qc, .int .u8 pol] (0, 0) _ (by rw [hR.block _ c0lt]; exact c0.out) Try.underlying28 rfl (by kernel_rfl) (hK _ w1 (PrV.is rfl rfl) (Below.refl _ _)))
    · intro ac w1 hR hd hk Kx hK
      exact yes (want_n rfl) (wp_callv 19 _ _ rfl _ Try.func19 rfl rfl _ (args1 ((hd 0 _ 6 rfl rfl rfl).val rfl)) (rating_any ca pa aa qa cn cc pn pc ak az qk qc pol Z M A Q w1 (hC.out.below hR)) (by rintro e w2 ⟨⟨v, rfl, hF⟩, hb⟩; exact ⟨_, rfl, hK _ _ (PrV.by rfl hF) hb⟩))
    · intro ac w1 hR hd hk Kx hK
      exact yes (want_n rfl) (wp_load_row 35 _ rfl g1 (get_keep (hk 3 (no_dst (by kernel_rfl))) rfl) 35 (sc s).toArray (0, 0) _ (by rw [hR.block _ c1lt]; exact c1.out) Try.underlying35 rfl (by kernel_rfl) (hK _ w1 (PrV.is rfl rfl) (Below.refl _ _)))
    · intro ac w1 hR hd hk Kx hK
      obtain ⟨gR, gC, ee, _, _, hcall⟩ := (hd 1 _ 7 rfl rfl rfl).out rfl
      exact yes (want_n rfl) (wp_callq 26 (.tmp 7) _ _ #[ptr gR, ptr gC] rfl ee _ Try.func26 rfl rfl _ (args1 ((hd 2 _ 8 rfl rfl rfl).val rfl)) (hcall w1 (Below.refl _ _) s) (by rintro e w2 ⟨rfl, hb⟩; exact ⟨_, rfl, hK _ _ (PrV.is rfl (by rw [← hpz.out]; rfl)) hb⟩))
    · intro ac w1 hR hd hk Kx hK
      have e9 : ac.tmps[9]?.getD undef = (.tuple #[.int .i64 pz.1, .int .i64 pz.2] : Value) := slot ((hd 3 _ 9 rfl rfl rfl).val rfl)
      refine yes (want_n rfl) ?_
      have hv := hid (hK (.int .i64 pz.1) w1 (PrV.is rfl rfl) (Below.refl _ _))
      go_simp
      exact kq hv.out rfl
    · intro ac w1 hR hd hk Kx hK
      have e9 : ac.tmps[9]?.getD undef = (.tuple #[.int .i64 pz.1, .int .i64 pz.2] : Value) := slot ((hd 3 _ 9 rfl rfl rfl).val rfl)
      refine yes (want_n rfl) ?_
      have hv := hid (hK (.int .i64 pz.2) w1 (PrV.is rfl rfl) (Below.refl _ _))
      go_simp
      exact kq hv.out rfl
    · intro ac w1 hR hd hk Kx hK
      have e10 : ac.tmps[10]?.getD undef = (.int .i64 pz.1 : Value) := slot ((hd 4 _ 10 rfl rfl rfl).val rfl)
      refine yes (want_n rfl) ?_
      have hv := hid (hK (.int .i64 pz.1) w1 (PrV.is rfl rfl) (Below.refl _ _))
      go_simp
      exact kq hv.out rfl
    · intro ac w1 hR hd hk Kx hK
      have e11 : ac.tmps[11]?.getD undef = (.int .i64 pz.2 : Value) := slot ((hd 5 _ 11 rfl rfl rfl).val rfl)
      refine yes (want_n rfl) ?_
      have hv := hid (hK (.int .i64 pz.2) w1 (PrV.is rfl rfl) (Below.refl _ _))
      go_simp
      exact kq hv.out rfl
  · intro ac w1 hdf hsz2 hkp hval hRw
    obtain ⟨ff, hf⟩ : ∃ ff, ff = fun d => ac.tmps.getD d undef := ⟨_, rfl⟩
    have h4 : ff 4 = .int .i64 pz.1 := by rw [hf]; exact (hval 6 _ 4 rfl rfl).val rfl
    have h5 : ff 5 = .int .i64 pz.2 := by rw [hf]; exact (hval 7 _ 5 rfl rfl).val rfl
    have hfa := act_filled hdf hsz2 hkp
    rw [← hf] at hfa
    rw [hfa]
    clear hdf hsz2 hkp hval hfa hf
    clear ac
    simp only [fillAll, List.set_cons_zero, List.set_cons_succ, h4, h5]
    have hB := hid (bl.out.trans (hRw.mono (by omega)))
    clear hRw
    go_wp2
    go_ret2
    exact ⟨rfl, by rw [hg0.out]; exact hB.out⟩

theorem gr_below {w w' : World} (h : GR w w') : Below w.heap.size w w' := by
  obtain ⟨q, os, rfl⟩ := h
  refine ⟨rfl, rfl, rfl, by rw [Go.Sort.size_grow]; show w.heap.size ≤ w.heap.size + _; omega, fun k hk => ?_⟩
  rw [Go.Sort.heap_grow_old _ _ (by exact hk)]
  rfl

set_option maxRecDepth 100000 in
set_option maxHeartbeats 1000000 in
theorem ahead_any (ca pa aa qa : Option Addr) (cn cc pn pc ak az qk qc : Nat) (pol : Int) (Z : List Int) (M : List (Prt × List ByteArray)) (A : List Acc) (Q : List Qu) (J1 J2 : Job) (w : World) (hC0 : CfR w ca pa aa qa cn pn ak az qk Z M A Q) :
    Calls Try.prog 8 #[.agg #[.slice ca cn cc, .slice pa pn pc, .slice aa ak az, .slice qa qk qc, .int .u8 pol], .agg (jc J1).toArray, .agg (jc J2).toArray] w fun e w' => e = .returned (.bool (ltOf cfP (plzP Z M A Q pol J1) (plzP Z M A Q pol J2))) ∧ Below w.heap.size w w' := by
  obtain ⟨W0, hW0⟩ : ∃ W0, W0 = ((w.alloc (.cells #[.slice ca cn cc, .slice pa pn pc, .slice aa ak az, .slice qa qk qc, .int .u8 pol] 28)).alloc (.cells (jc J1).toArray 40)).alloc (.cells (jc J2).toArray 40) := ⟨_, rfl⟩
  have bl0 := below_lit w (.cells #[.slice ca cn cc, .slice pa pn pc, .slice aa ak az, .slice qa qk qc, .int .u8 pol] 28)
  have bl1 := below_lit (w.alloc (.cells #[.slice ca cn cc, .slice pa pn pc, .slice aa ak az, .slice qa qk qc, .int .u8 pol] 28)) (.cells (jc J1).toArray 40)
  have bl2 := below_lit ((w.alloc (.cells #[.slice ca cn cc, .slice pa pn pc, .slice aa ak az, .slice qa qk qc, .int .u8 pol] 28)).alloc (.cells (jc J1).toArray 40)) (.cells (jc J2).toArray 40)
  have bl := bnext (bnext bl0 bl1) bl2
  have c0 : W0.heap[w.heap.size]? = some (.cells #[.slice ca cn cc, .slice pa pn pc, .slice aa ak az, .slice qa qk qc, .int .u8 pol] 28 (0, 0)) := by
    rw [hW0, bl2.block _ (by rw [size_lit, size_lit]; omega), bl1.block _ (by rw [size_lit]; omega)]; exact heap_alloc_new w _
  have c1 : W0.heap[w.heap.size + 1]? = some (.cells (jc J1).toArray 40 (0, 0)) := by
    have := heap_alloc_new (w.alloc (.cells #[.slice ca cn cc, .slice pa pn pc, .slice aa ak az, .slice qa qk qc, .int .u8 pol] 28)) (.cells (jc J1).toArray 40)
    rw [size_lit] at this
    rw [hW0, bl2.block _ (by rw [size_lit, size_lit]; omega)]; exact this
  have c2 : W0.heap[w.heap.size + 1 + 1]? = some (.cells (jc J2).toArray 40 (0, 0)) := by
    have := heap_alloc_new ((w.alloc (.cells #[.slice ca cn cc, .slice pa pn pc, .slice aa ak az, .slice qa qk qc, .int .u8 pol] 28)).alloc (.cells (jc J1).toArray 40)) (.cells (jc J2).toArray 40)
    rw [size_lit, size_lit] at this
    rw [hW0]; exact this
  rw [← hW0] at bl
  have hsz : W0.heap.size = w.heap.size + 1 + 1 + 1 := by rw [hW0, size_lit, size_lit, size_lit]
  clear bl0 bl1 bl2
  have kP := placing_any ca pa aa qa cn cc pn pc ak az qk qc pol Z M A Q W0 (hC0.below bl)
  clear hC0
  obtain ⟨p1, hp1⟩ : ∃ p1, p1 = plzP Z M A Q pol J1 := ⟨_, rfl⟩
  obtain ⟨p2, hp2⟩ : ∃ p2, p2 = plzP Z M A Q pol J2 := ⟨_, rfl⟩
  rw [← hp1, ← hp2]
  obtain ⟨cz, hcz⟩ : ∃ cz, cz = cfP p1 p2 := ⟨_, rfl⟩
  obtain ⟨bz, hbz⟩ : ∃ bz, bz = ltOf cfP p1 p2 := ⟨_, rfl⟩
  rw [← hbz]
  have hbz2 : bz = decide (cz < 0) := by rw [hbz, hcz]; rfl
  clear hbz
  have hbz := hid hbz2
  clear hbz2
  replace hp1 := hid hp1
  replace hp2 := hid hp2
  replace hcz := hid hcz
  have y0 : W0.cell? ⟨w.heap.size, 0, none⟩ = some (.slice ca cn cc) := row_cell c0 0 _ rfl
  have y1 : W0.cell? ⟨w.heap.size, 1, none⟩ = some (.slice pa pn pc) := row_cell c0 1 _ rfl
  have y2 : W0.cell? ⟨w.heap.size, 2, none⟩ = some (.slice aa ak az) := row_cell c0 2 _ rfl
  have y3 : W0.cell? ⟨w.heap.size, 3, none⟩ = some (.slice qa qk qc) := row_cell c0 3 _ rfl
  have y4 : W0.cell? ⟨w.heap.size, 4, none⟩ = some (.int .u8 pol) := row_cell c0 4 _ rfl
  replace c0 := hid c0
  replace c1 := hid c1
  replace c2 := hid c2
  replace bl := hid bl
  replace hW0 := hid hW0
  replace hsz := hid hsz
  go_enter Try.func8, Try.ntmps8
  go_upto_region 1 with fail
  rw [← hW0.out]
  go_wp2_with fail
  refine kP.mono ?_
  clear kP
  rintro e w2 ⟨⟨fv, rfl, hF⟩, h2⟩
  obtain ⟨gF, hfv, _, hcall⟩ := hF
  have q1 := hid (show w2.heap[w.heap.size + 1]? = some (.cells (jc J1).toArray 40 (0, 0)) by rw [h2.block _ (by have := hsz.out; omega)]; exact c1.out)
  have q2 := hid (show w2.heap[w.heap.size + 1 + 1]? = some (.cells (jc J2).toArray 40 (0, 0)) by rw [h2.block _ (by have := hsz.out; omega)]; exact c2.out)
  have c0lt : w.heap.size < w2.heap.size := by have := hsz.out; have := h2.size; omega
  have c1lt : w.heap.size + 1 < w2.heap.size := by have := hsz.out; have := h2.size; omega
  have c2lt : w.heap.size + 1 + 1 < w2.heap.size := by have := hsz.out; have := h2.size; omega
  have B2 := hid (bl.out.trans (h2.mono (by have := hsz.out; omega)))
  replace hcall := hid hcall
  replace hfv := hid hfv
  clear h2 y0 y1 y2 y3 y4 c0 c1 c2 bl hW0 hsz
  have c1 := q1
  have c2 := q2
  clear q1 q2
  go_upto_region 2 with fail
  generalize hg2 : w.heap.size + 1 + 1 = g2 at *
  generalize hg1 : w.heap.size + 1 = g1 at *
  generalize hg0 : w.heap.size = g0 at *
  replace hg2 := hid hg2
  replace hg1 := hid hg1
  replace hg0 := hid hg0
  rw [hfv.out]
  refine wp_region_drawn (Rel := fun w w' => Below w.heap.size w w') (Pr := PrV [.func (.func 21) #[] #[ptr gF], .agg (jc J1).toArray, .agg #[.int .i64 p1.1, .int .i64 p1.2], .func (.func 21) #[] #[ptr gF], .agg (jc J2).toArray, .agg #[.int .i64 p2.1, .int .i64 p2.2], .int .i64 cz, .bool bz, .bool bz] [] (fun _ _ _ => True)) (by kernel_rfl) (by kernel_rfl) (Below.drew (Below.refl _ _)) (fun _ _ _ h k => h.trans (k.mono h.size)) (PrV.mono fun _ _ _ _ h k => h) ?_ ?_
  · refine ⟨?_, ?_, ?_, ?_, ?_, ?_, ?_, ?_, ?_, trivial⟩
    · intro ac w1 hR hd hk Kx hK
      exact yes (want_n rfl) (wp_mv _ rfl _ (get_keep (hk 7 (no_dst (by kernel_rfl))) rfl) (hK _ w1 (PrV.is rfl rfl) (Below.refl _ _)))
    · intro ac w1 hR hd hk Kx hK
      exact yes (want_n rfl) (wp_load_row 40 _ rfl g1 (get_keep (hk 4 (no_dst (by kernel_rfl))) rfl) 40 (jc J1).toArray (0, 0) _ (by rw [hR.block _ c1lt]; exact c1.out) Try.underlying40 rfl (by kernel_rfl) (hK _ w1 (PrV.is rfl rfl) (Below.refl _ _)))
    · intro ac w1 hR hd hk Kx hK
      exact yes (want_n rfl) (wp_callq 21 (.tmp 10) _ _ #[ptr gF] rfl ((hd 0 _ 10 rfl rfl rfl).val rfl) _ Try.func21 rfl rfl _ (args1 ((hd 1 _ 11 rfl rfl rfl).val rfl)) (hcall.out w1 hR J1) (by rintro e w2 ⟨rfl, hb⟩; exact ⟨_, rfl, hK _ _ (PrV.is rfl (by rw [← hp1.out]; rfl)) hb⟩))
    · intro ac w1 hR hd hk Kx hK
      exact yes (want_n rfl) (wp_mv _ rfl _ (get_keep (hk 7 (no_dst (by kernel_rfl))) rfl) (hK _ w1 (PrV.is rfl rfl) (Below.refl _ _)))
    · intro ac w1 hR hd hk Kx hK
      exact yes (want_n rfl) (wp_load_row 40 _ rfl g2 (get_keep (hk 5 (no_dst (by kernel_rfl))) rfl) 40 (jc J2).toArray (0, 0) _ (by rw [hR.block _ c2lt]; exact c2.out) Try.underlying40 rfl (by kernel_rfl) (hK _ w1 (PrV.is rfl rfl) (Below.refl _ _)))
    · intro ac w1 hR hd hk Kx hK
      exact yes (want_n rfl) (wp_callq 21 (.tmp 13) _ _ #[ptr gF] rfl ((hd 3 _ 13 rfl rfl rfl).val rfl) _ Try.func21 rfl rfl _ (args1 ((hd 4 _ 14 rfl rfl rfl).val rfl)) (hcall.out w1 hR J2) (by rintro e w2 ⟨rfl, hb⟩; exact ⟨_, rfl, hK _ _ (PrV.is rfl (by rw [← hp2.out]; rfl)) hb⟩))
    · intro ac w1 hR hd hk Kx hK
      exact yes (want_n rfl) (wp_callv 17 _ _ rfl _ Try.func17 rfl rfl _ (args2 ((hd 2 _ 12 rfl rfl rfl).val rfl) ((hd 5 _ 15 rfl rfl rfl).val rfl)) (cmp17 p1 p2 w1) (by rintro e w2 ⟨rfl, hb⟩; exact ⟨_, rfl, hK _ _ (PrV.is rfl (by rw [← hcz.out]; rfl)) (gr_below hb)⟩))
    · intro ac w1 hR hd hk Kx hK
      have e16 : ac.tmps[16]?.getD undef = (.int .i64 cz : Value) := slot ((hd 6 _ 16 rfl rfl rfl).val rfl)
      refine yes (want_n rfl) ?_
      have hv := hid (hK (.bool bz) w1 (PrV.is rfl rfl) (Below.refl _ _))
      by_cases hneg : cz < 0
      · have hbt : bz = true := by rw [hbz.out]; exact decide_eq_true hneg
        subst hbt
        go_simp
        exact kq hv.out rfl
      · have hbt : bz = false := by rw [hbz.out]; exact decide_eq_false hneg
        subst hbt
        go_simp
        exact kq hv.out rfl
    · intro ac w1 hR hd hk Kx hK
      have e17 : ac.tmps[17]?.getD undef = (.bool bz : Value) := slot ((hd 7 _ 17 rfl rfl rfl).val rfl)
      refine yes (want_n rfl) ?_
      have hv := hid (hK (.bool bz) w1 (PrV.is rfl rfl) (Below.refl _ _))
      go_simp
      exact kq hv.out rfl
  · intro ac w1 hdf hsz2 hkp hval hRw
    obtain ⟨ff, hf⟩ : ∃ ff, ff = fun d => ac.tmps.getD d undef := ⟨_, rfl⟩
    have h6 : ff 6 = .bool bz := by rw [hf]; exact (hval 8 _ 6 rfl rfl).val rfl
    have hfa := act_filled hdf hsz2 hkp
    rw [← hf] at hfa
    rw [hfa]
    clear hdf hsz2 hkp hval hfa hf
    clear ac
    simp only [fillAll, List.set_cons_zero, List.set_cons_succ, h6]
    have hB := hid (B2.out.trans (hRw.mono (by omega)))
    clear hRw
    go_wp2
    go_ret
    exact ⟨rfl, by rw [hg0.out]; exact hB.out⟩
end Go.Proofs.Ytflapjehkgefdaa
