/- job's Begin. -/
import Derived.Test.YtphkdjacladcpaaJt
namespace Go.Proofs.Ytphkdjacladcpaa
open Go.RowKit
set_option linter.unusedVariables false
set_option linter.unusedSimpArgs false

def beginE (j : Job) (on now : Int) : Int := if rightB j = true ∧ ((Nd.cnt on.toNat : Nat) : Int) = j.s.nodes ∧ j.sub ≤ now ∧ now ≤ MT then (if j.st = 1 then 0 else 180) else 2
def begun (j : Job) (on now : Int) : Job := ⟨j.id, j.arr, j.idx, j.s, 2, j.sub, now, j.fin, on, j.exit⟩
/-- A job that is told, or an error and no job. -/
def BT (base : Nat) (err : Int) (J : Job) (D : List Dp) (e : Ending) (w' : World) : Prop := (err = 0 ∧ ∃ x y, e = .returned (.tuple #[.agg (jc (J.re x y)).toArray, .int .i64 0]) ∧ J.s.dn ≤ y ∧ DOwn w' base (.slice x J.s.dn y) D) ∨ (err ≠ 0 ∧ e = .returned (.tuple #[.agg (jc job0).toArray, .int .i64 err]))
theorem fol_run (s : Int) : folB s 2 = decide (s = 1) := by unfold folB; rw [if_pos (.inl rfl)]

def pvA (g : Nat) (j : Job) (on now C : Int) : List Value := [.agg (jc j).toArray, .bool false, .bool true, .bool true, undef, undef, undef, undef, undef, undef, .bool true, .bool true, undef, undef, undef, undef, undef, undef, .bool true]
def pvB (g : Nat) (j : Job) (on now C : Int) : List Value := [.agg (jc j).toArray, .bool true, .bool false, .bool false, .int .u32 on, .int .i64 C, .pointer (some ⟨g, 3, none⟩), .pointer (some ⟨g, 7, none⟩), .int .i64 j.s.nodes, .bool true, .bool true, .bool true, undef, undef, undef, undef, undef, undef, .bool true]
def pvC (g : Nat) (j : Job) (on now C : Int) : List Value := [.agg (jc j).toArray, .bool true, .bool false, .bool false, .int .u32 on, .int .i64 C, .pointer (some ⟨g, 3, none⟩), .pointer (some ⟨g, 7, none⟩), .int .i64 j.s.nodes, .bool false, .bool false, .bool false, .pointer (some ⟨g, 12, none⟩), .int .i64 j.sub, .int .i64 now, undef, .bool false, .bool true, .bool true]
def pvD (g : Nat) (j : Job) (on now C : Int) : List Value := [.agg (jc j).toArray, .bool true, .bool false, .bool false, .int .u32 on, .int .i64 C, .pointer (some ⟨g, 3, none⟩), .pointer (some ⟨g, 7, none⟩), .int .i64 j.s.nodes, .bool false, .bool false, .bool false, .pointer (some ⟨g, 12, none⟩), .int .i64 j.sub, .int .i64 now, undef, .bool true, .bool false, .bool false]

/-- What a call of Begin or Finish begins with: the job's block, and the answer's. -/
structure St (w W0 : World) (j : Job) : Prop where
  r0 : W0.heap[w.heap.size]? = some (.cells (jc j).toArray 42 (0, 0))
  r1 : W0.heap[w.heap.size + 1]? = some (.cells zJ 42 (0, 0))
  sz : W0.heap.size = w.heap.size + 1 + 1
  bl : Below w.heap.size w W0
theorem st_make (w : World) (j : Job) : St w ((w.alloc (.cells (jc j).toArray 42)).alloc (.cells zJ 42)) j := by
  have bl0 := below_lit w (.cells (jc j).toArray 42)
  have bl1 := below_lit (w.alloc (.cells (jc j).toArray 42)) (.cells zJ 42)
  refine ⟨?_, ?_, by rw [size_lit, size_lit], bnext bl0 bl1⟩
  · rw [bl1.block _ (by rw [size_lit]; omega)]; exact heap_alloc_new w _
  · have := heap_alloc_new (w.alloc (.cells (jc j).toArray 42)) (.cells zJ 42)
    rw [size_lit] at this
    exact this

set_option maxRecDepth 100000 in
set_option maxHeartbeats 2000000 in
theorem begin_A (j : Job) (on now C : Int) (D : List Dp) (w : World) (h0 : 0 ≤ j.on) (h1 : j.on < 4294967296) (ho0 : 0 ≤ on) (ho1 : on < 4294967296) (hC : ((Nd.cnt on.toNat : Nat) : Int) = C) (hD : D.length = j.s.dn) (hl : j.s.dn * 16 ≤ 140737488355328) (hat : DAt w j.s.da D) (hr : rightB j = false) (E : Int) (hE : E = 2) :
    Calls Try.prog 19 #[.agg (jc j).toArray, .int .u32 on, .int .i64 now] w fun e w' => BT (w.heap.size + 1 + 1) E (begun j on now) D e w' ∧ Below w.heap.size w w' := by
  have hst := st_make w j
  obtain ⟨W0, hW0⟩ : ∃ W0, W0 = (w.alloc (.cells (jc j).toArray 42)).alloc (.cells zJ 42) := ⟨_, rfl⟩
  rw [← hW0] at hst
  obtain ⟨r0, r1, hsz, bl⟩ := hst
  replace hE := hid hE
  have kR := fun w => right_any j w h0 h1
  rw [hr] at kR
  have kC := fun w => Nd.count_any on.toNat (by omega) w
  rw [show ((on.toNat : Nat) : Int) = on by omega, hC] at kC
  have kT := fun w gb h => order3 j.sub now MT w gb h
  have kA := fun w5 (hb : Below W0.heap.size W0 w5) => apart_any j D w5 hD hl ((hat.below bl).below hb)
  have kF := fun w => fol_any j.st 2 w
  rw [fol_run] at kF
  have c7 := row_cell r0 7 (.int .i64 j.s.nodes) rfl
  have c11 := row_cell r0 11 (.int .u8 j.st) rfl
  have c12 := row_cell r0 12 (.int .i64 j.sub) rfl
  have hg0 : w.heap.size < W0.heap.size := by omega
  have hbT := hid (fun w' (h : Below W0.heap.size W0 w') => bnext bl h)
  replace hC := hid hC
  replace r0 := hid r0
  replace r1 := hid r1
  replace hD := hid hD
  replace hat := hid hat
  replace hr := hid hr
  go_enter Try.func19, Try.ntmps19
  go_wp2_with fail
  rw [← hW0]
  replace hW0 := hid hW0
  replace kA := hid kA
  generalize hgg : w.heap.size = g at *
  replace hgg := hid hgg
  refine wp_region_drawn (Rel := fun w w' => Below w.heap.size w w') (Pr := PrV (pvA g j on now C) [] (fun _ _ _ => True)) (by kernel_rfl) (by kernel_rfl) (drew_below _) bel_tr (PrV.mono (fun _ _ _ _ _ _ => trivial)) ?_ ?_
  · refine ⟨?_, ?_, ?_, ?_, ?_, ?_, ?_, ?_, ?_, ?_, ?_, ?_, ?_, ?_, ?_, ?_, ?_, ?_, ?_, trivial⟩
    · intro ac w hR hd hk K hK
      exact yes (want_n rfl) (wp_load_row 42 _ rfl g ((get_keep (hk 3 (no_dst (by kernel_rfl))) rfl)) 42 (jc j).toArray (0, 0) _ (by rw [hR.block _ hg0]; exact r0.out) Try.underlying42 rfl (by kernel_rfl) (hK _ w (PrV.is rfl rfl) (Below.refl _ _)))
    · exact fun ac w hR hd hk K hK => yes (want_n rfl) (wp_callv 29 _ _ rfl _ Try.func29 rfl rfl _ (args1 ((hd 0 _ 9 rfl rfl rfl).val rfl)) (kR w) (by rintro e w' ⟨rfl, hb⟩; exact ⟨_, rfl, hK _ w' (PrV.is rfl rfl) (hb)⟩))
    · intro ac w hR hd hk K hK
      have e10 : ac.tmps[10]?.getD undef = (.bool false : Value) := slot ((hd 1 _ 10 rfl rfl rfl).val rfl)
      refine yes (want_n rfl) ?_
      have hv := hid (hK (.bool true) w (PrV.is rfl rfl) (Below.refl _ _))
      go_simp
      refine kq hv.out ?_
      rfl
    · exact fun ac w hR hd hk K hK => yes (want_n rfl) (wp_mv _ rfl _ ((hd 2 _ 11 rfl rfl rfl).val rfl) (hK _ w (PrV.is rfl rfl) (Below.refl _ _)))
    · exact fun ac w hR hd hk K hK => nope (want_f rfl rfl ((hd 3 _ 12 rfl rfl rfl).val rfl) (by decide)) (hK _ w (PrV.is rfl rfl) (Below.refl _ _))
    · exact fun ac w hR hd hk K hK => nope (want_f rfl rfl ((hd 3 _ 12 rfl rfl rfl).val rfl) (by decide)) (hK _ w (PrV.is rfl rfl) (Below.refl _ _))
    · exact fun ac w hR hd hk K hK => nope (want_f rfl rfl ((hd 3 _ 12 rfl rfl rfl).val rfl) (by decide)) (hK _ w (PrV.is rfl rfl) (Below.refl _ _))
    · exact fun ac w hR hd hk K hK => nope (want_f rfl rfl ((hd 3 _ 12 rfl rfl rfl).val rfl) (by decide)) (hK _ w (PrV.is rfl rfl) (Below.refl _ _))
    · exact fun ac w hR hd hk K hK => nope (want_f rfl rfl ((hd 3 _ 12 rfl rfl rfl).val rfl) (by decide)) (hK _ w (PrV.is rfl rfl) (Below.refl _ _))
    · exact fun ac w hR hd hk K hK => nope (want_f rfl rfl ((hd 3 _ 12 rfl rfl rfl).val rfl) (by decide)) (hK _ w (PrV.is rfl rfl) (Below.refl _ _))
    · exact fun ac w hR hd hk K hK => yes (want_n rfl) (wp_pick _ _ _ rfl true _ ((hd 3 _ 12 rfl rfl rfl).val rfl) rfl (hK _ w (PrV.is rfl rfl) (Below.refl _ _)))
    · exact fun ac w hR hd hk K hK => yes (want_n rfl) (wp_mv _ rfl _ ((hd 10 _ 19 rfl rfl rfl).val rfl) (hK _ w (PrV.is rfl rfl) (Below.refl _ _)))
    · exact fun ac w hR hd hk K hK => nope (want_f rfl rfl ((hd 11 _ 20 rfl rfl rfl).val rfl) (by decide)) (hK _ w (PrV.is rfl rfl) (Below.refl _ _))
    · exact fun ac w hR hd hk K hK => nope (want_f rfl rfl ((hd 11 _ 20 rfl rfl rfl).val rfl) (by decide)) (hK _ w (PrV.is rfl rfl) (Below.refl _ _))
    · exact fun ac w hR hd hk K hK => nope (want_f rfl rfl ((hd 11 _ 20 rfl rfl rfl).val rfl) (by decide)) (hK _ w (PrV.is rfl rfl) (Below.refl _ _))
    · exact fun ac w hR hd hk K hK => nope (want_f rfl rfl ((hd 11 _ 20 rfl rfl rfl).val rfl) (by decide)) (hK _ w (PrV.is rfl rfl) (Below.refl _ _))
    · exact fun ac w hR hd hk K hK => nope (want_f rfl rfl ((hd 11 _ 20 rfl rfl rfl).val rfl) (by decide)) (hK _ w (PrV.is rfl rfl) (Below.refl _ _))
    · exact fun ac w hR hd hk K hK => nope (want_f rfl rfl ((hd 11 _ 20 rfl rfl rfl).val rfl) (by decide)) (hK _ w (PrV.is rfl rfl) (Below.refl _ _))
    · exact fun ac w hR hd hk K hK => yes (want_n rfl) (wp_pick _ _ _ rfl true _ ((hd 11 _ 20 rfl rfl rfl).val rfl) rfl (hK _ w (PrV.is rfl rfl) (Below.refl _ _)))
  · intro a w5 hdf hsz hkp hval hRw
    obtain ⟨f, hf⟩ : ∃ f, f = fun d => a.tmps.getD d undef := ⟨_, rfl⟩
    have h27 : f 27 = .bool true := by rw [hf]; exact (hval 18 _ 27 rfl rfl).val rfl
    have hfa := act_filled hdf hsz hkp
    rw [← hf] at hfa
    rw [hfa]
    clear hdf hsz hkp hval hfa hf
    clear a
    simp only [fillAll, List.set_cons_zero, List.set_cons_succ, h27]
    clear h27
    have hq := hE
    have u1 : w5.heap[g + 1]? = some (.cells zJ 42 (0, 0)) := by rw [(hRw).block _ (by omega)]; exact r1.out
    have v1 := setRow_heap w5 (g + 1) _ zJ _ _ u1
    have DD := below_setRow (g := g + 1) (hbT.out _ (hRw)) (by omega) zJ
    replace u1 := hid u1
    replace v1 := hid v1
    go_wp2_with (refine wpList_store_row rfl 42 (.tmp 6) (.tmp 28) rfl (g + 1) zJ rfl rfl 42 _ u1.out (by kernel_rfl) rfl (jc_all job0) ?_)
    (try simp only [Exit.inBlock, Exit.then])
    refine bodyPost_ret (results_cell_tmp rfl _ _ (g + 1) 42 zJ (0, 0) _ rfl v1.out Try.underlying42 (by kernel_rfl)) rfl ?_
    rw [hgg.out]
    exact ⟨.inr ⟨by rw [hq.out]; decide, by rw [hq.out]; rfl⟩, DD⟩

set_option maxRecDepth 100000 in
set_option maxHeartbeats 2000000 in
theorem begin_B (j : Job) (on now C : Int) (D : List Dp) (w : World) (h0 : 0 ≤ j.on) (h1 : j.on < 4294967296) (ho0 : 0 ≤ on) (ho1 : on < 4294967296) (hC : ((Nd.cnt on.toNat : Nat) : Int) = C) (hD : D.length = j.s.dn) (hl : j.s.dn * 16 ≤ 140737488355328) (hat : DAt w j.s.da D) (hr : rightB j = true) (hcn : ¬ C = j.s.nodes) (E : Int) (hE : E = 2) :
    Calls Try.prog 19 #[.agg (jc j).toArray, .int .u32 on, .int .i64 now] w fun e w' => BT (w.heap.size + 1 + 1) E (begun j on now) D e w' ∧ Below w.heap.size w w' := by
  have hst := st_make w j
  obtain ⟨W0, hW0⟩ : ∃ W0, W0 = (w.alloc (.cells (jc j).toArray 42)).alloc (.cells zJ 42) := ⟨_, rfl⟩
  rw [← hW0] at hst
  obtain ⟨r0, r1, hsz, bl⟩ := hst
  replace hE := hid hE
  have kR := fun w => right_any j w h0 h1
  rw [hr] at kR
  have kC := fun w => Nd.count_any on.toNat (by omega) w
  rw [show ((on.toNat : Nat) : Int) = on by omega, hC] at kC
  have kT := fun w gb h => order3 j.sub now MT w gb h
  have kA := fun w5 (hb : Below W0.heap.size W0 w5) => apart_any j D w5 hD hl ((hat.below bl).below hb)
  have kF := fun w => fol_any j.st 2 w
  rw [fol_run] at kF
  have c7 := row_cell r0 7 (.int .i64 j.s.nodes) rfl
  have c11 := row_cell r0 11 (.int .u8 j.st) rfl
  have c12 := row_cell r0 12 (.int .i64 j.sub) rfl
  have hg0 : w.heap.size < W0.heap.size := by omega
  have hbT := hid (fun w' (h : Below W0.heap.size W0 w') => bnext bl h)
  replace hC := hid hC
  replace r0 := hid r0
  replace r1 := hid r1
  replace hD := hid hD
  replace hat := hid hat
  replace hr := hid hr
  go_enter Try.func19, Try.ntmps19
  go_wp2_with fail
  rw [← hW0]
  replace hW0 := hid hW0
  replace kA := hid kA
  generalize hgg : w.heap.size = g at *
  replace hgg := hid hgg
  refine wp_region_drawn (Rel := fun w w' => Below w.heap.size w w') (Pr := PrV (pvB g j on now C) [] (fun _ _ _ => True)) (by kernel_rfl) (by kernel_rfl) (drew_below _) bel_tr (PrV.mono (fun _ _ _ _ _ _ => trivial)) ?_ ?_
  · refine ⟨?_, ?_, ?_, ?_, ?_, ?_, ?_, ?_, ?_, ?_, ?_, ?_, ?_, ?_, ?_, ?_, ?_, ?_, ?_, trivial⟩
    · intro ac w hR hd hk K hK
      exact yes (want_n rfl) (wp_load_row 42 _ rfl g ((get_keep (hk 3 (no_dst (by kernel_rfl))) rfl)) 42 (jc j).toArray (0, 0) _ (by rw [hR.block _ hg0]; exact r0.out) Try.underlying42 rfl (by kernel_rfl) (hK _ w (PrV.is rfl rfl) (Below.refl _ _)))
    · exact fun ac w hR hd hk K hK => yes (want_n rfl) (wp_callv 29 _ _ rfl _ Try.func29 rfl rfl _ (args1 ((hd 0 _ 9 rfl rfl rfl).val rfl)) (kR w) (by rintro e w' ⟨rfl, hb⟩; exact ⟨_, rfl, hK _ w' (PrV.is rfl rfl) (hb)⟩))
    · intro ac w hR hd hk K hK
      have e10 : ac.tmps[10]?.getD undef = (.bool true : Value) := slot ((hd 1 _ 10 rfl rfl rfl).val rfl)
      refine yes (want_n rfl) ?_
      have hv := hid (hK (.bool false) w (PrV.is rfl rfl) (Below.refl _ _))
      go_simp
      refine kq hv.out ?_
      rfl
    · exact fun ac w hR hd hk K hK => yes (want_n rfl) (wp_mv _ rfl _ ((hd 2 _ 11 rfl rfl rfl).val rfl) (hK _ w (PrV.is rfl rfl) (Below.refl _ _)))
    · exact fun ac w hR hd hk K hK => yes (want_g rfl rfl ((hd 3 _ 12 rfl rfl rfl).val rfl)) (wp_mv _ rfl _ (get_keep (hk 1 (no_dst (by kernel_rfl))) rfl) (hK _ w (PrV.is rfl rfl) (Below.refl _ _)))
    · exact fun ac w hR hd hk K hK => yes (want_g rfl rfl ((hd 3 _ 12 rfl rfl rfl).val rfl)) (wp_callv 36 _ _ rfl _ Try.func36 rfl rfl _ (args1 ((hd 4 _ 13 rfl rfl rfl).val rfl)) (kC w) (by rintro e w' ⟨rfl, hb⟩; exact ⟨_, rfl, hK _ w' (PrV.is rfl rfl) (hb)⟩))
    · intro ac w hR hd hk K hK
      have e3 : ac.tmps[3]?.getD undef = (.pointer (some ⟨g, 0, none⟩) : Value) := slot (get_keep (hk 3 (no_dst (by kernel_rfl))) rfl)
      refine yes (want_g rfl rfl ((hd 3 _ 12 rfl rfl rfl).val rfl)) ?_
      have hv := hid (hK (.pointer (some ⟨g, 3, none⟩)) w (PrV.is rfl rfl) (Below.refl _ _))
      go_simp
      refine kq hv.out ?_
      rfl
    · intro ac w hR hd hk K hK
      have e15 : ac.tmps[15]?.getD undef = (.pointer (some ⟨g, 3, none⟩) : Value) := slot ((hd 6 _ 15 rfl rfl rfl).val rfl)
      refine yes (want_g rfl rfl ((hd 3 _ 12 rfl rfl rfl).val rfl)) ?_
      have hv := hid (hK (.pointer (some ⟨g, 7, none⟩)) w (PrV.is rfl rfl) (Below.refl _ _))
      go_simp
      refine kq hv.out ?_
      rfl
    · intro ac w hR hd hk K hK
      have e16 : ac.tmps[16]?.getD undef = (.pointer (some ⟨g, 7, none⟩) : Value) := slot ((hd 7 _ 16 rfl rfl rfl).val rfl)
      have x7 := stay hR c7
      refine yes (want_g rfl rfl ((hd 3 _ 12 rfl rfl rfl).val rfl)) ?_
      have hv := hid (hK (.int .i64 j.s.nodes) w (PrV.is rfl rfl) (Below.refl _ _))
      go_simp
      refine kq hv.out ?_
      rfl
    · intro ac w hR hd hk K hK
      have e14 : ac.tmps[14]?.getD undef = (.int .i64 C : Value) := slot ((hd 5 _ 14 rfl rfl rfl).val rfl)
      have e17 : ac.tmps[17]?.getD undef = (.int .i64 j.s.nodes : Value) := slot ((hd 8 _ 17 rfl rfl rfl).val rfl)
      have hcn2 := hcn
      refine yes (want_g rfl rfl ((hd 3 _ 12 rfl rfl rfl).val rfl)) ?_
      have hv := hid (hK (.bool true) w (PrV.is rfl rfl) (Below.refl _ _))
      go_simp
      refine kq hv.out ?_
      simp [hcn2]
    · exact fun ac w hR hd hk K hK => yes (want_n rfl) (wp_pick _ _ _ rfl false _ ((hd 3 _ 12 rfl rfl rfl).val rfl) ((hd 9 _ 18 rfl rfl rfl).val rfl) (hK _ w (PrV.is rfl rfl) (Below.refl _ _)))
    · exact fun ac w hR hd hk K hK => yes (want_n rfl) (wp_mv _ rfl _ ((hd 10 _ 19 rfl rfl rfl).val rfl) (hK _ w (PrV.is rfl rfl) (Below.refl _ _)))
    · exact fun ac w hR hd hk K hK => nope (want_f rfl rfl ((hd 11 _ 20 rfl rfl rfl).val rfl) (by decide)) (hK _ w (PrV.is rfl rfl) (Below.refl _ _))
    · exact fun ac w hR hd hk K hK => nope (want_f rfl rfl ((hd 11 _ 20 rfl rfl rfl).val rfl) (by decide)) (hK _ w (PrV.is rfl rfl) (Below.refl _ _))
    · exact fun ac w hR hd hk K hK => nope (want_f rfl rfl ((hd 11 _ 20 rfl rfl rfl).val rfl) (by decide)) (hK _ w (PrV.is rfl rfl) (Below.refl _ _))
    · exact fun ac w hR hd hk K hK => nope (want_f rfl rfl ((hd 11 _ 20 rfl rfl rfl).val rfl) (by decide)) (hK _ w (PrV.is rfl rfl) (Below.refl _ _))
    · exact fun ac w hR hd hk K hK => nope (want_f rfl rfl ((hd 11 _ 20 rfl rfl rfl).val rfl) (by decide)) (hK _ w (PrV.is rfl rfl) (Below.refl _ _))
    · exact fun ac w hR hd hk K hK => nope (want_f rfl rfl ((hd 11 _ 20 rfl rfl rfl).val rfl) (by decide)) (hK _ w (PrV.is rfl rfl) (Below.refl _ _))
    · exact fun ac w hR hd hk K hK => yes (want_n rfl) (wp_pick _ _ _ rfl true _ ((hd 11 _ 20 rfl rfl rfl).val rfl) rfl (hK _ w (PrV.is rfl rfl) (Below.refl _ _)))
  · intro a w5 hdf hsz hkp hval hRw
    obtain ⟨f, hf⟩ : ∃ f, f = fun d => a.tmps.getD d undef := ⟨_, rfl⟩
    have h27 : f 27 = .bool true := by rw [hf]; exact (hval 18 _ 27 rfl rfl).val rfl
    have hfa := act_filled hdf hsz hkp
    rw [← hf] at hfa
    rw [hfa]
    clear hdf hsz hkp hval hfa hf
    clear a
    simp only [fillAll, List.set_cons_zero, List.set_cons_succ, h27]
    clear h27
    have hq := hE
    have u1 : w5.heap[g + 1]? = some (.cells zJ 42 (0, 0)) := by rw [(hRw).block _ (by omega)]; exact r1.out
    have v1 := setRow_heap w5 (g + 1) _ zJ _ _ u1
    have DD := below_setRow (g := g + 1) (hbT.out _ (hRw)) (by omega) zJ
    replace u1 := hid u1
    replace v1 := hid v1
    go_wp2_with (refine wpList_store_row rfl 42 (.tmp 6) (.tmp 28) rfl (g + 1) zJ rfl rfl 42 _ u1.out (by kernel_rfl) rfl (jc_all job0) ?_)
    (try simp only [Exit.inBlock, Exit.then])
    refine bodyPost_ret (results_cell_tmp rfl _ _ (g + 1) 42 zJ (0, 0) _ rfl v1.out Try.underlying42 (by kernel_rfl)) rfl ?_
    rw [hgg.out]
    exact ⟨.inr ⟨by rw [hq.out]; decide, by rw [hq.out]; rfl⟩, DD⟩

set_option maxRecDepth 100000 in
set_option maxHeartbeats 2000000 in
theorem begin_C (j : Job) (on now C : Int) (D : List Dp) (w : World) (h0 : 0 ≤ j.on) (h1 : j.on < 4294967296) (ho0 : 0 ≤ on) (ho1 : on < 4294967296) (hC : ((Nd.cnt on.toNat : Nat) : Int) = C) (hD : D.length = j.s.dn) (hl : j.s.dn * 16 ≤ 140737488355328) (hat : DAt w j.s.da D) (hr : rightB j = true) (hcn : C = j.s.nodes) (ht : ord3 j.sub now MT = false) (E : Int) (hE : E = 2) :
    Calls Try.prog 19 #[.agg (jc j).toArray, .int .u32 on, .int .i64 now] w fun e w' => BT (w.heap.size + 1 + 1) E (begun j on now) D e w' ∧ Below w.heap.size w w' := by
  have hst := st_make w j
  obtain ⟨W0, hW0⟩ : ∃ W0, W0 = (w.alloc (.cells (jc j).toArray 42)).alloc (.cells zJ 42) := ⟨_, rfl⟩
  rw [← hW0] at hst
  obtain ⟨r0, r1, hsz, bl⟩ := hst
  replace hE := hid hE
  have kR := fun w => right_any j w h0 h1
  rw [hr] at kR
  have kC := fun w => Nd.count_any on.toNat (by omega) w
  rw [show ((on.toNat : Nat) : Int) = on by omega, hC] at kC
  have kT := fun w gb h => order3 j.sub now MT w gb h
  have kA := fun w5 (hb : Below W0.heap.size W0 w5) => apart_any j D w5 hD hl ((hat.below bl).below hb)
  have kF := fun w => fol_any j.st 2 w
  rw [fol_run] at kF
  have c7 := row_cell r0 7 (.int .i64 j.s.nodes) rfl
  have c11 := row_cell r0 11 (.int .u8 j.st) rfl
  have c12 := row_cell r0 12 (.int .i64 j.sub) rfl
  have hg0 : w.heap.size < W0.heap.size := by omega
  have hbT := hid (fun w' (h : Below W0.heap.size W0 w') => bnext bl h)
  rw [ht] at kT
  subst hcn
  replace hC := hid hC
  replace r0 := hid r0
  replace r1 := hid r1
  replace hD := hid hD
  replace hat := hid hat
  replace hr := hid hr
  replace ht := hid ht
  go_enter Try.func19, Try.ntmps19
  go_wp2_with fail
  rw [← hW0]
  replace hW0 := hid hW0
  replace kA := hid kA
  generalize hgg : w.heap.size = g at *
  replace hgg := hid hgg
  refine wp_region_drawn (Rel := fun w w' => Below w.heap.size w w') (Pr := PrV (pvC g j on now j.s.nodes) [15] (fun _ v w => ∃ gb, v = .slice (some ⟨gb, 0, none⟩) 3 3 ∧ CAt w (some ⟨gb, 0, none⟩) [.int .i64 j.sub, .int .i64 now, .int .i64 1099511627776])) (by kernel_rfl) (by kernel_rfl) (drew_below _) bel_tr (PrV.mono (fun _ _ _ _ h hb => by obtain ⟨gb, h1, h2⟩ := h; exact ⟨gb, h1, h2.below hb⟩)) ?_ ?_
  · refine ⟨?_, ?_, ?_, ?_, ?_, ?_, ?_, ?_, ?_, ?_, ?_, ?_, ?_, ?_, ?_, ?_, ?_, ?_, ?_, trivial⟩
    · intro ac w hR hd hk K hK
      exact yes (want_n rfl) (wp_load_row 42 _ rfl g ((get_keep (hk 3 (no_dst (by kernel_rfl))) rfl)) 42 (jc j).toArray (0, 0) _ (by rw [hR.block _ hg0]; exact r0.out) Try.underlying42 rfl (by kernel_rfl) (hK _ w (PrV.is rfl rfl) (Below.refl _ _)))
    · exact fun ac w hR hd hk K hK => yes (want_n rfl) (wp_callv 29 _ _ rfl _ Try.func29 rfl rfl _ (args1 ((hd 0 _ 9 rfl rfl rfl).val rfl)) (kR w) (by rintro e w' ⟨rfl, hb⟩; exact ⟨_, rfl, hK _ w' (PrV.is rfl rfl) (hb)⟩))
    · intro ac w hR hd hk K hK
      have e10 : ac.tmps[10]?.getD undef = (.bool true : Value) := slot ((hd 1 _ 10 rfl rfl rfl).val rfl)
      refine yes (want_n rfl) ?_
      have hv := hid (hK (.bool false) w (PrV.is rfl rfl) (Below.refl _ _))
      go_simp
      refine kq hv.out ?_
      rfl
    · exact fun ac w hR hd hk K hK => yes (want_n rfl) (wp_mv _ rfl _ ((hd 2 _ 11 rfl rfl rfl).val rfl) (hK _ w (PrV.is rfl rfl) (Below.refl _ _)))
    · exact fun ac w hR hd hk K hK => yes (want_g rfl rfl ((hd 3 _ 12 rfl rfl rfl).val rfl)) (wp_mv _ rfl _ (get_keep (hk 1 (no_dst (by kernel_rfl))) rfl) (hK _ w (PrV.is rfl rfl) (Below.refl _ _)))
    · exact fun ac w hR hd hk K hK => yes (want_g rfl rfl ((hd 3 _ 12 rfl rfl rfl).val rfl)) (wp_callv 36 _ _ rfl _ Try.func36 rfl rfl _ (args1 ((hd 4 _ 13 rfl rfl rfl).val rfl)) (kC w) (by rintro e w' ⟨rfl, hb⟩; exact ⟨_, rfl, hK _ w' (PrV.is rfl rfl) (hb)⟩))
    · intro ac w hR hd hk K hK
      have e3 : ac.tmps[3]?.getD undef = (.pointer (some ⟨g, 0, none⟩) : Value) := slot (get_keep (hk 3 (no_dst (by kernel_rfl))) rfl)
      refine yes (want_g rfl rfl ((hd 3 _ 12 rfl rfl rfl).val rfl)) ?_
      have hv := hid (hK (.pointer (some ⟨g, 3, none⟩)) w (PrV.is rfl rfl) (Below.refl _ _))
      go_simp
      refine kq hv.out ?_
      rfl
    · intro ac w hR hd hk K hK
      have e15 : ac.tmps[15]?.getD undef = (.pointer (some ⟨g, 3, none⟩) : Value) := slot ((hd 6 _ 15 rfl rfl rfl).val rfl)
      refine yes (want_g rfl rfl ((hd 3 _ 12 rfl rfl rfl).val rfl)) ?_
      have hv := hid (hK (.pointer (some ⟨g, 7, none⟩)) w (PrV.is rfl rfl) (Below.refl _ _))
      go_simp
      refine kq hv.out ?_
      rfl
    · intro ac w hR hd hk K hK
      have e16 : ac.tmps[16]?.getD undef = (.pointer (some ⟨g, 7, none⟩) : Value) := slot ((hd 7 _ 16 rfl rfl rfl).val rfl)
      have x7 := stay hR c7
      refine yes (want_g rfl rfl ((hd 3 _ 12 rfl rfl rfl).val rfl)) ?_
      have hv := hid (hK (.int .i64 j.s.nodes) w (PrV.is rfl rfl) (Below.refl _ _))
      go_simp
      refine kq hv.out ?_
      rfl
    · intro ac w hR hd hk K hK
      have e14 : ac.tmps[14]?.getD undef = (.int .i64 j.s.nodes : Value) := slot ((hd 5 _ 14 rfl rfl rfl).val rfl)
      have e17 : ac.tmps[17]?.getD undef = (.int .i64 j.s.nodes : Value) := slot ((hd 8 _ 17 rfl rfl rfl).val rfl)
      refine yes (want_g rfl rfl ((hd 3 _ 12 rfl rfl rfl).val rfl)) ?_
      have hv := hid (hK (.bool false) w (PrV.is rfl rfl) (Below.refl _ _))
      go_simp
      refine kq hv.out ?_
      simp
    · exact fun ac w hR hd hk K hK => yes (want_n rfl) (wp_pick _ _ _ rfl false _ ((hd 3 _ 12 rfl rfl rfl).val rfl) ((hd 9 _ 18 rfl rfl rfl).val rfl) (hK _ w (PrV.is rfl rfl) (Below.refl _ _)))
    · exact fun ac w hR hd hk K hK => yes (want_n rfl) (wp_mv _ rfl _ ((hd 10 _ 19 rfl rfl rfl).val rfl) (hK _ w (PrV.is rfl rfl) (Below.refl _ _)))
    · intro ac w hR hd hk K hK
      have e3 : ac.tmps[3]?.getD undef = (.pointer (some ⟨g, 0, none⟩) : Value) := slot (get_keep (hk 3 (no_dst (by kernel_rfl))) rfl)
      refine yes (want_g rfl rfl ((hd 11 _ 20 rfl rfl rfl).val rfl)) ?_
      have hv := hid (hK (.pointer (some ⟨g, 12, none⟩)) w (PrV.is rfl rfl) (Below.refl _ _))
      go_simp
      refine kq hv.out ?_
      rfl
    · intro ac w hR hd hk K hK
      have e21 : ac.tmps[21]?.getD undef = (.pointer (some ⟨g, 12, none⟩) : Value) := slot ((hd 12 _ 21 rfl rfl rfl).val rfl)
      have x12 := stay hR c12
      refine yes (want_g rfl rfl ((hd 11 _ 20 rfl rfl rfl).val rfl)) ?_
      have hv := hid (hK (.int .i64 j.sub) w (PrV.is rfl rfl) (Below.refl _ _))
      go_simp
      refine kq hv.out ?_
      rfl
    · exact fun ac w hR hd hk K hK => yes (want_g rfl rfl ((hd 11 _ 20 rfl rfl rfl).val rfl)) (wp_mv _ rfl _ (get_keep (hk 2 (no_dst (by kernel_rfl))) rfl) (hK _ w (PrV.is rfl rfl) (Below.refl _ _)))
    · intro ac w hR hd hk K hK
      refine yes (want_g rfl rfl ((hd 11 _ 20 rfl rfl rfl).val rfl)) ?_
      refine step_ord3 _ _ j.sub now rfl ((hd 13 _ 22 rfl rfl rfl).val rfl) ((hd 14 _ 23 rfl rfl rfl).val rfl) ?_
      intro gb w2 hb hcat
      exact hK _ w2 (PrV.by rfl ⟨gb, rfl, hcat⟩) hb
    · intro ac w hR hd hk K hK
      obtain ⟨gb, hv24, hcat⟩ := (hd 15 _ 24 rfl rfl rfl).out rfl
      refine yes (want_g rfl rfl ((hd 11 _ 20 rfl rfl rfl).val rfl)) (wp_callv 30 _ _ rfl _ Try.func30 rfl rfl _ (args1 hv24) (kT w gb hcat) ?_)
      rintro e w' ⟨rfl, hb⟩
      exact ⟨_, rfl, hK _ w' (PrV.is rfl rfl) hb⟩
    · intro ac w hR hd hk K hK
      have e25 : ac.tmps[25]?.getD undef = (.bool false : Value) := slot ((hd 16 _ 25 rfl rfl rfl).val rfl)
      refine yes (want_g rfl rfl ((hd 11 _ 20 rfl rfl rfl).val rfl)) ?_
      have hv := hid (hK (.bool true) w (PrV.is rfl rfl) (Below.refl _ _))
      go_simp
      refine kq hv.out ?_
      rfl
    · exact fun ac w hR hd hk K hK => yes (want_n rfl) (wp_pick _ _ _ rfl false _ ((hd 11 _ 20 rfl rfl rfl).val rfl) ((hd 17 _ 26 rfl rfl rfl).val rfl) (hK _ w (PrV.is rfl rfl) (Below.refl _ _)))
  · intro a w5 hdf hsz hkp hval hRw
    obtain ⟨f, hf⟩ : ∃ f, f = fun d => a.tmps.getD d undef := ⟨_, rfl⟩
    have h27 : f 27 = .bool true := by rw [hf]; exact (hval 18 _ 27 rfl rfl).val rfl
    have hfa := act_filled hdf hsz hkp
    rw [← hf] at hfa
    rw [hfa]
    clear hdf hsz hkp hval hfa hf
    clear a
    simp only [fillAll, List.set_cons_zero, List.set_cons_succ, h27]
    clear h27
    have hq := hE
    have u1 : w5.heap[g + 1]? = some (.cells zJ 42 (0, 0)) := by rw [(hRw).block _ (by omega)]; exact r1.out
    have v1 := setRow_heap w5 (g + 1) _ zJ _ _ u1
    have DD := below_setRow (g := g + 1) (hbT.out _ (hRw)) (by omega) zJ
    replace u1 := hid u1
    replace v1 := hid v1
    go_wp2_with (refine wpList_store_row rfl 42 (.tmp 6) (.tmp 28) rfl (g + 1) zJ rfl rfl 42 _ u1.out (by kernel_rfl) rfl (jc_all job0) ?_)
    (try simp only [Exit.inBlock, Exit.then])
    refine bodyPost_ret (results_cell_tmp rfl _ _ (g + 1) 42 zJ (0, 0) _ rfl v1.out Try.underlying42 (by kernel_rfl)) rfl ?_
    rw [hgg.out]
    exact ⟨.inr ⟨by rw [hq.out]; decide, by rw [hq.out]; rfl⟩, DD⟩

set_option maxRecDepth 100000 in
set_option maxHeartbeats 2000000 in
theorem begin_D (j : Job) (on now C : Int) (D : List Dp) (w : World) (h0 : 0 ≤ j.on) (h1 : j.on < 4294967296) (ho0 : 0 ≤ on) (ho1 : on < 4294967296) (hC : ((Nd.cnt on.toNat : Nat) : Int) = C) (hD : D.length = j.s.dn) (hl : j.s.dn * 16 ≤ 140737488355328) (hat : DAt w j.s.da D) (hr : rightB j = true) (hcn : C = j.s.nodes) (ht : ord3 j.sub now MT = true) (E : Int) (hE : E = (if j.st = 1 then 0 else 180)) :
    Calls Try.prog 19 #[.agg (jc j).toArray, .int .u32 on, .int .i64 now] w fun e w' => BT (w.heap.size + 1 + 1) E (begun j on now) D e w' ∧ Below w.heap.size w w' := by
  have hst := st_make w j
  obtain ⟨W0, hW0⟩ : ∃ W0, W0 = (w.alloc (.cells (jc j).toArray 42)).alloc (.cells zJ 42) := ⟨_, rfl⟩
  rw [← hW0] at hst
  obtain ⟨r0, r1, hsz, bl⟩ := hst
  replace hE := hid hE
  have kR := fun w => right_any j w h0 h1
  rw [hr] at kR
  have kC := fun w => Nd.count_any on.toNat (by omega) w
  rw [show ((on.toNat : Nat) : Int) = on by omega, hC] at kC
  have kT := fun w gb h => order3 j.sub now MT w gb h
  have kA := fun w5 (hb : Below W0.heap.size W0 w5) => apart_any j D w5 hD hl ((hat.below bl).below hb)
  have kF := fun w => fol_any j.st 2 w
  rw [fol_run] at kF
  have c7 := row_cell r0 7 (.int .i64 j.s.nodes) rfl
  have c11 := row_cell r0 11 (.int .u8 j.st) rfl
  have c12 := row_cell r0 12 (.int .i64 j.sub) rfl
  have hg0 : w.heap.size < W0.heap.size := by omega
  have hbT := hid (fun w' (h : Below W0.heap.size W0 w') => bnext bl h)
  rw [ht] at kT
  subst hcn
  replace hC := hid hC
  replace r0 := hid r0
  replace r1 := hid r1
  replace hD := hid hD
  replace hat := hid hat
  replace hr := hid hr
  replace ht := hid ht
  go_enter Try.func19, Try.ntmps19
  go_wp2_with fail
  rw [← hW0]
  replace hW0 := hid hW0
  replace kA := hid kA
  generalize hgg : w.heap.size = g at *
  replace hgg := hid hgg
  refine wp_region_drawn (Rel := fun w w' => Below w.heap.size w w') (Pr := PrV (pvD g j on now j.s.nodes) [15] (fun _ v w => ∃ gb, v = .slice (some ⟨gb, 0, none⟩) 3 3 ∧ CAt w (some ⟨gb, 0, none⟩) [.int .i64 j.sub, .int .i64 now, .int .i64 1099511627776])) (by kernel_rfl) (by kernel_rfl) (drew_below _) bel_tr (PrV.mono (fun _ _ _ _ h hb => by obtain ⟨gb, h1, h2⟩ := h; exact ⟨gb, h1, h2.below hb⟩)) ?_ ?_
  · refine ⟨?_, ?_, ?_, ?_, ?_, ?_, ?_, ?_, ?_, ?_, ?_, ?_, ?_, ?_, ?_, ?_, ?_, ?_, ?_, trivial⟩
    · intro ac w hR hd hk K hK
      exact yes (want_n rfl) (wp_load_row 42 _ rfl g ((get_keep (hk 3 (no_dst (by kernel_rfl))) rfl)) 42 (jc j).toArray (0, 0) _ (by rw [hR.block _ hg0]; exact r0.out) Try.underlying42 rfl (by kernel_rfl) (hK _ w (PrV.is rfl rfl) (Below.refl _ _)))
    · exact fun ac w hR hd hk K hK => yes (want_n rfl) (wp_callv 29 _ _ rfl _ Try.func29 rfl rfl _ (args1 ((hd 0 _ 9 rfl rfl rfl).val rfl)) (kR w) (by rintro e w' ⟨rfl, hb⟩; exact ⟨_, rfl, hK _ w' (PrV.is rfl rfl) (hb)⟩))
    · intro ac w hR hd hk K hK
      have e10 : ac.tmps[10]?.getD undef = (.bool true : Value) := slot ((hd 1 _ 10 rfl rfl rfl).val rfl)
      refine yes (want_n rfl) ?_
      have hv := hid (hK (.bool false) w (PrV.is rfl rfl) (Below.refl _ _))
      go_simp
      refine kq hv.out ?_
      rfl
    · exact fun ac w hR hd hk K hK => yes (want_n rfl) (wp_mv _ rfl _ ((hd 2 _ 11 rfl rfl rfl).val rfl) (hK _ w (PrV.is rfl rfl) (Below.refl _ _)))
    · exact fun ac w hR hd hk K hK => yes (want_g rfl rfl ((hd 3 _ 12 rfl rfl rfl).val rfl)) (wp_mv _ rfl _ (get_keep (hk 1 (no_dst (by kernel_rfl))) rfl) (hK _ w (PrV.is rfl rfl) (Below.refl _ _)))
    · exact fun ac w hR hd hk K hK => yes (want_g rfl rfl ((hd 3 _ 12 rfl rfl rfl).val rfl)) (wp_callv 36 _ _ rfl _ Try.func36 rfl rfl _ (args1 ((hd 4 _ 13 rfl rfl rfl).val rfl)) (kC w) (by rintro e w' ⟨rfl, hb⟩; exact ⟨_, rfl, hK _ w' (PrV.is rfl rfl) (hb)⟩))
    · intro ac w hR hd hk K hK
      have e3 : ac.tmps[3]?.getD undef = (.pointer (some ⟨g, 0, none⟩) : Value) := slot (get_keep (hk 3 (no_dst (by kernel_rfl))) rfl)
      refine yes (want_g rfl rfl ((hd 3 _ 12 rfl rfl rfl).val rfl)) ?_
      have hv := hid (hK (.pointer (some ⟨g, 3, none⟩)) w (PrV.is rfl rfl) (Below.refl _ _))
      go_simp
      refine kq hv.out ?_
      rfl
    · intro ac w hR hd hk K hK
      have e15 : ac.tmps[15]?.getD undef = (.pointer (some ⟨g, 3, none⟩) : Value) := slot ((hd 6 _ 15 rfl rfl rfl).val rfl)
      refine yes (want_g rfl rfl ((hd 3 _ 12 rfl rfl rfl).val rfl)) ?_
      have hv := hid (hK (.pointer (some ⟨g, 7, none⟩)) w (PrV.is rfl rfl) (Below.refl _ _))
      go_simp
      refine kq hv.out ?_
      rfl
    · intro ac w hR hd hk K hK
      have e16 : ac.tmps[16]?.getD undef = (.pointer (some ⟨g, 7, none⟩) : Value) := slot ((hd 7 _ 16 rfl rfl rfl).val rfl)
      have x7 := stay hR c7
      refine yes (want_g rfl rfl ((hd 3 _ 12 rfl rfl rfl).val rfl)) ?_
      have hv := hid (hK (.int .i64 j.s.nodes) w (PrV.is rfl rfl) (Below.refl _ _))
      go_simp
      refine kq hv.out ?_
      rfl
    · intro ac w hR hd hk K hK
      have e14 : ac.tmps[14]?.getD undef = (.int .i64 j.s.nodes : Value) := slot ((hd 5 _ 14 rfl rfl rfl).val rfl)
      have e17 : ac.tmps[17]?.getD undef = (.int .i64 j.s.nodes : Value) := slot ((hd 8 _ 17 rfl rfl rfl).val rfl)
      refine yes (want_g rfl rfl ((hd 3 _ 12 rfl rfl rfl).val rfl)) ?_
      have hv := hid (hK (.bool false) w (PrV.is rfl rfl) (Below.refl _ _))
      go_simp
      refine kq hv.out ?_
      simp
    · exact fun ac w hR hd hk K hK => yes (want_n rfl) (wp_pick _ _ _ rfl false _ ((hd 3 _ 12 rfl rfl rfl).val rfl) ((hd 9 _ 18 rfl rfl rfl).val rfl) (hK _ w (PrV.is rfl rfl) (Below.refl _ _)))
    · exact fun ac w hR hd hk K hK => yes (want_n rfl) (wp_mv _ rfl _ ((hd 10 _ 19 rfl rfl rfl).val rfl) (hK _ w (PrV.is rfl rfl) (Below.refl _ _)))
    · intro ac w hR hd hk K hK
      have e3 : ac.tmps[3]?.getD undef = (.pointer (some ⟨g, 0, none⟩) : Value) := slot (get_keep (hk 3 (no_dst (by kernel_rfl))) rfl)
      refine yes (want_g rfl rfl ((hd 11 _ 20 rfl rfl rfl).val rfl)) ?_
      have hv := hid (hK (.pointer (some ⟨g, 12, none⟩)) w (PrV.is rfl rfl) (Below.refl _ _))
      go_simp
      refine kq hv.out ?_
      rfl
    · intro ac w hR hd hk K hK
      have e21 : ac.tmps[21]?.getD undef = (.pointer (some ⟨g, 12, none⟩) : Value) := slot ((hd 12 _ 21 rfl rfl rfl).val rfl)
      have x12 := stay hR c12
      refine yes (want_g rfl rfl ((hd 11 _ 20 rfl rfl rfl).val rfl)) ?_
      have hv := hid (hK (.int .i64 j.sub) w (PrV.is rfl rfl) (Below.refl _ _))
      go_simp
      refine kq hv.out ?_
      rfl
    · exact fun ac w hR hd hk K hK => yes (want_g rfl rfl ((hd 11 _ 20 rfl rfl rfl).val rfl)) (wp_mv _ rfl _ (get_keep (hk 2 (no_dst (by kernel_rfl))) rfl) (hK _ w (PrV.is rfl rfl) (Below.refl _ _)))
    · intro ac w hR hd hk K hK
      refine yes (want_g rfl rfl ((hd 11 _ 20 rfl rfl rfl).val rfl)) ?_
      refine step_ord3 _ _ j.sub now rfl ((hd 13 _ 22 rfl rfl rfl).val rfl) ((hd 14 _ 23 rfl rfl rfl).val rfl) ?_
      intro gb w2 hb hcat
      exact hK _ w2 (PrV.by rfl ⟨gb, rfl, hcat⟩) hb
    · intro ac w hR hd hk K hK
      obtain ⟨gb, hv24, hcat⟩ := (hd 15 _ 24 rfl rfl rfl).out rfl
      refine yes (want_g rfl rfl ((hd 11 _ 20 rfl rfl rfl).val rfl)) (wp_callv 30 _ _ rfl _ Try.func30 rfl rfl _ (args1 hv24) (kT w gb hcat) ?_)
      rintro e w' ⟨rfl, hb⟩
      exact ⟨_, rfl, hK _ w' (PrV.is rfl rfl) hb⟩
    · intro ac w hR hd hk K hK
      have e25 : ac.tmps[25]?.getD undef = (.bool true : Value) := slot ((hd 16 _ 25 rfl rfl rfl).val rfl)
      refine yes (want_g rfl rfl ((hd 11 _ 20 rfl rfl rfl).val rfl)) ?_
      have hv := hid (hK (.bool false) w (PrV.is rfl rfl) (Below.refl _ _))
      go_simp
      refine kq hv.out ?_
      rfl
    · exact fun ac w hR hd hk K hK => yes (want_n rfl) (wp_pick _ _ _ rfl false _ ((hd 11 _ 20 rfl rfl rfl).val rfl) ((hd 17 _ 26 rfl rfl rfl).val rfl) (hK _ w (PrV.is rfl rfl) (Below.refl _ _)))
  · intro a w5 hdf hsz hkp hval hRw
    obtain ⟨f, hf⟩ : ∃ f, f = fun d => a.tmps.getD d undef := ⟨_, rfl⟩
    have h27 : f 27 = .bool false := by rw [hf]; exact (hval 18 _ 27 rfl rfl).val rfl
    have hfa := act_filled hdf hsz hkp
    rw [← hf] at hfa
    rw [hfa]
    clear hdf hsz hkp hval hfa hf
    clear a
    simp only [fillAll, List.set_cons_zero, List.set_cons_succ, h27]
    clear h27
    have x11 := stay hRw c11
    have hs5 := hRw.size
    have hlt5 : g < w5.heap.size := by omega
    by_cases e1 : j.st = 1
    · have d1 : decide (j.st = 1) = true := decide_eq_true e1
      rw [d1] at kF
      replace e1 := hid e1
      replace d1 := hid d1
      have q0 : w5.heap[g]? = some (.cells (jc j).toArray 42 (0, 0)) := by rw [hRw.block _ (by omega)]; exact r0.out
      have q1 : w5.heap[g + 1]? = some (.cells zJ 42 (0, 0)) := by rw [hRw.block _ (by omega)]; exact r1.out
      replace q0 := hid q0
      replace q1 := hid q1
      go_wp2_with fail
      refine (kF _).mono ?_
      rintro e wx ⟨rfl, rfl⟩
      go_wp2_with (refine wpList_load_row rfl 42 (.tmp 3) rfl g rfl 42 (jc j).toArray (0, 0) _ q0.out Try.underlying42 rfl (by kernel_rfl) ?_)
      refine (kA.out _ hRw).mono ?_
      rintro e w6 ⟨x, y, rfl, hy, ho, hb6⟩
      have D6 := hbT.out _ (bnext hRw hb6)
      have p1 : w6.heap[g + 1]? = some (.cells zJ 42 (0, 0)) := by rw [hb6.block _ (by omega)]; exact q1.out
      have hs6 := hb6.size
      have al1 := below_lit w6 (.cells (jc ((begun j on now).re x y)).toArray 42)
      have v8 := heap_alloc_new w6 (.cells (jc ((begun j on now).re x y)).toArray 42)
      have p1b : (w6.alloc (.cells (jc ((begun j on now).re x y)).toArray 42)).heap[g + 1]? = some (.cells zJ 42 (0, 0)) := by rw [al1.block _ (by omega)]; exact p1
      have v1 := setRow_heap (w6.alloc (.cells (jc ((begun j on now).re x y)).toArray 42)) (g + 1) _ (jc ((begun j on now).re x y)).toArray _ _ p1b
      have D7 := hbT.out _ (bnext (bnext hRw hb6) al1)
      have D8 := below_setRow (g := g + 1) D7 (by omega) (jc ((begun j on now).re x y)).toArray
      have ho2 := (ho.below al1)
      have K3 : Kp (fun k => k = g + 1) (w6.alloc (.cells (jc ((begun j on now).re x y)).toArray 42)) ((w6.alloc (.cells (jc ((begun j on now).re x y)).toArray 42)).setRow (g + 1) (jc ((begun j on now).re x y)).toArray) := kp_setRow (S := fun k => k = g + 1) (Kp.refl _ _) rfl _
      have o3 := owns_low (base' := g + 1 + 1) (owns_kp ho2 K3 (fun k hk h => by have := (World.ownsRow.lt ho2 k hk).1; omega)) (by omega)
      replace v8 := hid v8
      replace v1 := hid v1
      replace p1b := hid p1b
      replace o3 := hid o3
      replace ho := hid ho
      replace ho2 := hid ho2
      replace K3 := hid K3
      simp only [jc, Job.re, Spc.re]
      go_wp2_with (first
        | (refine wpList_store_row rfl 42 (.tmp 8) (.tmp 35) rfl w6.heap.size (jc (j.re x y)).toArray rfl rfl 42 _ (heap_alloc_new w6 _) (by kernel_rfl) rfl (jc_all _) ?_; rw [alloc_setRow]; simp only [jc, Job.re, Spc.re])
        | (refine wpList_load_row rfl 42 (.tmp 8) rfl w6.heap.size rfl 42 (jc ((begun j on now).re x y)).toArray (0, 0) _ v8.out Try.underlying42 rfl (by kernel_rfl) ?_)
        | (refine wpList_store_row rfl 42 (.tmp 6) (.tmp 41) rfl (g + 1) (jc ((begun j on now).re x y)).toArray rfl rfl 42 _ p1b.out (by kernel_rfl) rfl (jc_all _) ?_))
      (try simp only [Exit.inBlock, Exit.then])
      refine bodyPost_ret (results_cell_tmp rfl _ _ (g + 1) 42 (jc ((begun j on now).re x y)).toArray (0, 0) _ rfl v1.out Try.underlying42 (by kernel_rfl)) rfl ?_
      rw [hgg.out]
      exact ⟨.inl ⟨by rw [hE.out, if_pos e1.out], x, y, rfl, hy, o3.out⟩, D8⟩
    · have d1 : decide (j.st = 1) = false := decide_eq_false e1
      rw [d1] at kF
      have hq : Hid (E = 180) := hid (by rw [hE.out, if_neg e1])
      replace e1 := hid e1
      replace d1 := hid d1
      go_wp2_with fail
      refine (kF _).mono ?_
      rintro e wx ⟨rfl, rfl⟩
      have u1 : wx.heap[g + 1]? = some (.cells zJ 42 (0, 0)) := by rw [(hRw).block _ (by omega)]; exact r1.out
      have v1 := setRow_heap wx (g + 1) _ zJ _ _ u1
      have DD := below_setRow (g := g + 1) (hbT.out _ (hRw)) (by omega) zJ
      replace u1 := hid u1
      replace v1 := hid v1
      go_wp2_with (refine wpList_store_row rfl 42 (.tmp 6) (.tmp 33) rfl (g + 1) zJ rfl rfl 42 _ u1.out (by kernel_rfl) rfl (jc_all job0) ?_)
      (try simp only [Exit.inBlock, Exit.then])
      refine bodyPost_ret (results_cell_tmp rfl _ _ (g + 1) 42 zJ (0, 0) _ rfl v1.out Try.underlying42 (by kernel_rfl)) rfl ?_
      rw [hgg.out]
      exact ⟨.inr ⟨by rw [hq.out]; decide, by rw [hq.out]; rfl⟩, DD⟩

theorem begin_any (j : Job) (on now : Int) (D : List Dp) (w : World) (h0 : 0 ≤ j.on) (h1 : j.on < 4294967296) (ho0 : 0 ≤ on) (ho1 : on < 4294967296) (hD : D.length = j.s.dn) (hl : j.s.dn * 16 ≤ 140737488355328) (hat : DAt w j.s.da D) :
    Calls Try.prog 19 #[.agg (jc j).toArray, .int .u32 on, .int .i64 now] w fun e w' => BT (w.heap.size + 1 + 1) (beginE j on now) (begun j on now) D e w' ∧ Below w.heap.size w w' := by
  have hE : beginE j on now = if rightB j = true ∧ ((Nd.cnt on.toNat : Nat) : Int) = j.s.nodes ∧ ord3 j.sub now MT = true then (if j.st = 1 then 0 else 180) else 2 := by
    unfold beginE ord3
    simp only [Bool.and_eq_true, decide_eq_true_eq]
  rw [hE]
  cases hr : rightB j with
  | false => rw [if_neg (fun h => by cases h.1)]; exact begin_A j on now _ D w h0 h1 ho0 ho1 rfl hD hl hat hr _ rfl
  | true =>
    by_cases hcn : ((Nd.cnt on.toNat : Nat) : Int) = j.s.nodes
    · cases ht : ord3 j.sub now MT with
      | false => rw [if_neg (fun h => by cases h.2.2)]; exact begin_C j on now _ D w h0 h1 ho0 ho1 rfl hD hl hat hr hcn ht _ rfl
      | true => rw [if_pos ⟨rfl, hcn, rfl⟩]; exact begin_D j on now _ D w h0 h1 ho0 ho1 rfl hD hl hat hr hcn ht _ rfl
    · rw [if_neg (fun h => hcn h.2.1)]; exact begin_B j on now _ D w h0 h1 ho0 ho1 rfl hD hl hat hr hcn _ rfl

end Go.Proofs.Ytphkdjacladcpaa
