/- The document's Begin. -/
import Derived.Test.YtlhmlfinflodaaaJw
import Derived.Test.YtlhmlfinflodaaaUz
namespace Go.Proofs.Ytlhmlfinflodaaa
open Go.RowKit
set_option linter.unusedVariables false
set_option linter.unusedSimpArgs false

theorem listlen (on : Int) (h0 : 0 ≤ on) (h1 : on < 4294967296) (w : World) : Calls Try.prog 29 #[.int .u32 on] w fun e w' => ∃ la lc, e = .returned (.slice la (Nd.cnt on.toNat) lc) ∧ Below w.heap.size w w' := by
  have k := Nd.listr_any on.toNat (by omega) w
  rw [show ((on.toNat : Nat) : Int) = on by omega] at k
  refine k.mono ?_
  rintro e w' ⟨v, rfl, hown, hb⟩
  obtain ⟨la, lc, rfl, _⟩ := owns_form hown
  exact ⟨la, lc, by rw [lst_cnt], hb⟩

def pwA (g : Nat) (j : Job) (on now : Int) (C : Nat) : List Value := [.agg (jc j).toArray, .bool false, .bool true, .bool true, undef, undef, undef, undef, undef, undef, undef, .bool true, .bool true, undef, undef, undef, undef, .bool true, .bool true, undef, undef, .bool true]
def pwB (g : Nat) (j : Job) (on now : Int) (C : Nat) : List Value := [.agg (jc j).toArray, .bool true, .bool false, .bool false, .int .u32 on, undef, .int .i64 (C : Int), .pointer (some ⟨g, 3, none⟩), .pointer (some ⟨g, 7, none⟩), .int .i64 j.s.nodes, .bool true, .bool true, .bool true, undef, undef, undef, undef, .bool true, .bool true, undef, undef, .bool true]
def pwC (g : Nat) (j : Job) (on now : Int) (C : Nat) : List Value := [.agg (jc j).toArray, .bool true, .bool false, .bool false, .int .u32 on, undef, .int .i64 (C : Int), .pointer (some ⟨g, 3, none⟩), .pointer (some ⟨g, 7, none⟩), .int .i64 j.s.nodes, .bool false, .bool false, .bool false, .int .i64 now, .pointer (some ⟨g, 12, none⟩), .int .i64 j.sub, .bool true, .bool true, .bool true, undef, undef, .bool true]
def pwD (g : Nat) (j : Job) (on now : Int) (C : Nat) : List Value := [.agg (jc j).toArray, .bool true, .bool false, .bool false, .int .u32 on, undef, .int .i64 (C : Int), .pointer (some ⟨g, 3, none⟩), .pointer (some ⟨g, 7, none⟩), .int .i64 j.s.nodes, .bool false, .bool false, .bool false, .int .i64 now, .pointer (some ⟨g, 12, none⟩), .int .i64 j.sub, .bool false, .bool false, .bool false, .int .i64 now, .bool true, .bool true]
def pwE (g : Nat) (j : Job) (on now : Int) (C : Nat) : List Value := [.agg (jc j).toArray, .bool true, .bool false, .bool false, .int .u32 on, undef, .int .i64 (C : Int), .pointer (some ⟨g, 3, none⟩), .pointer (some ⟨g, 7, none⟩), .int .i64 j.s.nodes, .bool false, .bool false, .bool false, .int .i64 now, .pointer (some ⟨g, 12, none⟩), .int .i64 j.sub, .bool false, .bool false, .bool false, .int .i64 now, .bool false, .bool false]

set_option maxRecDepth 100000 in
set_option maxHeartbeats 2000000 in
theorem rbA (j : Job) (on now : Int) (C : Nat) (D : List Dp) (w : World) (h0 : 0 ≤ j.on) (h1 : j.on < 4294967296) (ho0 : 0 ≤ on) (ho1 : on < 4294967296) (hC : Nd.cnt on.toNat = C) (hD : D.length = j.s.dn) (hl : j.s.dn * 16 ≤ 140737488355328) (hat : DAt w j.s.da D) (hr : rightB j = false) (E : Int) (hE : E = 2) :
    Calls Try.prog 8 #[.agg (jc j).toArray, .int .u32 on, .int .i64 now] w fun e w' => BT (w.heap.size + 1 + 1) E (begun j on now) D e w' ∧ Below w.heap.size w w' := by
  have hst := st_make w j
  obtain ⟨W0, hW0⟩ : ∃ W0, W0 = (w.alloc (.cells (jc j).toArray 29)).alloc (.cells zJ 29) := ⟨_, rfl⟩
  rw [← hW0] at hst
  obtain ⟨r0, r1, hsz, bl⟩ := hst
  replace hE := hid hE
  have kR := fun w => rright_any j w h0 h1
  rw [hr] at kR
  have kL := fun w => listlen on ho0 ho1 w
  rw [hC] at kL
  have kA := fun w5 (hb : Below W0.heap.size W0 w5) => copyjob j D w5 hD hl ((hat.below bl).below hb)
  have c7 := row_cell r0 7 (.int .i64 j.s.nodes) rfl
  have c11 := row_cell r0 11 (.int .u8 j.st) rfl
  have c12 := row_cell r0 12 (.int .i64 j.sub) rfl
  have hg0 : w.heap.size < W0.heap.size := by omega
  have hbT := hid (fun w' (h : Below W0.heap.size W0 w') => bnext bl h)
  replace hC := hid hC
  replace r0 := hid r0
  replace r1 := hid r1
  replace hD := hid hD
  replace hat := hid hat
  replace hr := hid hr
  go_enter Try.func8, Try.ntmps8
  go_wp2_with fail
  rw [← hW0]
  replace hW0 := hid hW0
  replace kA := hid kA
  generalize hgg : w.heap.size = g at *
  replace hgg := hid hgg
  refine wp_region_drawn (Rel := fun w w' => Below w.heap.size w w') (Pr := PrV (pwA g j on now C) [] (fun _ _ _ => True)) (by kernel_rfl) (by kernel_rfl) (drew_below _) bel_tr (PrV.mono (fun _ _ _ _ _ _ => trivial)) ?_ ?_
  · refine ⟨?_, ?_, ?_, ?_, ?_, ?_, ?_, ?_, ?_, ?_, ?_, ?_, ?_, ?_, ?_, ?_, ?_, ?_, ?_, ?_, ?_, ?_, trivial⟩
    · intro ac w hR hd hk K hK
      exact yes (want_n rfl) (wp_load_row 29 _ rfl g ((get_keep (hk 3 (no_dst (by kernel_rfl))) rfl)) 29 (jc j).toArray (0, 0) _ (by rw [hR.block _ hg0]; exact r0.out) Try.underlying29 rfl (by kernel_rfl) (hK _ w (PrV.is rfl rfl) (Below.refl _ _)))
    · exact fun ac w hR hd hk K hK => yes (want_n rfl) (wp_callv 15 _ _ rfl _ Try.func15 rfl rfl _ (args1 ((hd 0 _ 9 rfl rfl rfl).val rfl)) (kR w) (by rintro e w' ⟨rfl, hb⟩; exact ⟨_, rfl, hK _ w' (PrV.is rfl rfl) (hb)⟩))
    · intro ac w hR hd hk K hK
      have e10 : ac.tmps[10]?.getD undef = (.bool false : Value) := slot ((hd 1 _ 10 rfl rfl rfl).val rfl)
      refine yes (want_n rfl) ?_
      have hv := hid (hK (.bool true) w (PrV.is rfl rfl) (Below.refl _ _))
      go_simp
      refine kq hv.out ?_
      rfl
    · exact fun ac w hR hd hk K hK => yes (want_n rfl) (wp_mv _ rfl _ ((hd 2 _ 11 rfl rfl rfl).val rfl) (hK _ w (PrV.is rfl rfl) (Below.refl _ _)))
    · exact fun ac w hR hd hk K hK => nope (want_f rfl rfl ((hd 3 _ 12 rfl rfl rfl).val rfl) (by decide)) (hK _ w (PrV.is rfl rfl) (Below.refl _ _))
    · exact fun ac w hR hd hk K hK => nope (want_f rfl rfl ((hd 3 _ 12 rfl rfl rfl).val rfl) (by decide)) (hK _ w (PrV.is rfl rfl) (Below.refl _ _))
    · exact fun ac w hR hd hk K hK => nope (want_f rfl rfl ((hd 3 _ 12 rfl rfl rfl).val rfl) (by decide)) (hK _ w (PrV.is rfl rfl) (Below.refl _ _))
    · exact fun ac w hR hd hk K hK => nope (want_f rfl rfl ((hd 3 _ 12 rfl rfl rfl).val rfl) (by decide)) (hK _ w (PrV.is rfl rfl) (Below.refl _ _))
    · exact fun ac w hR hd hk K hK => nope (want_f rfl rfl ((hd 3 _ 12 rfl rfl rfl).val rfl) (by decide)) (hK _ w (PrV.is rfl rfl) (Below.refl _ _))
    · exact fun ac w hR hd hk K hK => nope (want_f rfl rfl ((hd 3 _ 12 rfl rfl rfl).val rfl) (by decide)) (hK _ w (PrV.is rfl rfl) (Below.refl _ _))
    · exact fun ac w hR hd hk K hK => nope (want_f rfl rfl ((hd 3 _ 12 rfl rfl rfl).val rfl) (by decide)) (hK _ w (PrV.is rfl rfl) (Below.refl _ _))
    · exact fun ac w hR hd hk K hK => yes (want_n rfl) (wp_pick _ _ _ rfl true _ ((hd 3 _ 12 rfl rfl rfl).val rfl) rfl (hK _ w (PrV.is rfl rfl) (Below.refl _ _)))
    · exact fun ac w hR hd hk K hK => yes (want_n rfl) (wp_mv _ rfl _ ((hd 11 _ 20 rfl rfl rfl).val rfl) (hK _ w (PrV.is rfl rfl) (Below.refl _ _)))
    · exact fun ac w hR hd hk K hK => nope (want_f rfl rfl ((hd 12 _ 21 rfl rfl rfl).val rfl) (by decide)) (hK _ w (PrV.is rfl rfl) (Below.refl _ _))
    · exact fun ac w hR hd hk K hK => nope (want_f rfl rfl ((hd 12 _ 21 rfl rfl rfl).val rfl) (by decide)) (hK _ w (PrV.is rfl rfl) (Below.refl _ _))
    · exact fun ac w hR hd hk K hK => nope (want_f rfl rfl ((hd 12 _ 21 rfl rfl rfl).val rfl) (by decide)) (hK _ w (PrV.is rfl rfl) (Below.refl _ _))
    · exact fun ac w hR hd hk K hK => nope (want_f rfl rfl ((hd 12 _ 21 rfl rfl rfl).val rfl) (by decide)) (hK _ w (PrV.is rfl rfl) (Below.refl _ _))
    · exact fun ac w hR hd hk K hK => yes (want_n rfl) (wp_pick _ _ _ rfl true _ ((hd 12 _ 21 rfl rfl rfl).val rfl) rfl (hK _ w (PrV.is rfl rfl) (Below.refl _ _)))
    · exact fun ac w hR hd hk K hK => yes (want_n rfl) (wp_mv _ rfl _ ((hd 17 _ 26 rfl rfl rfl).val rfl) (hK _ w (PrV.is rfl rfl) (Below.refl _ _)))
    · exact fun ac w hR hd hk K hK => nope (want_f rfl rfl ((hd 18 _ 27 rfl rfl rfl).val rfl) (by decide)) (hK _ w (PrV.is rfl rfl) (Below.refl _ _))
    · exact fun ac w hR hd hk K hK => nope (want_f rfl rfl ((hd 18 _ 27 rfl rfl rfl).val rfl) (by decide)) (hK _ w (PrV.is rfl rfl) (Below.refl _ _))
    · exact fun ac w hR hd hk K hK => yes (want_n rfl) (wp_pick _ _ _ rfl true _ ((hd 18 _ 27 rfl rfl rfl).val rfl) rfl (hK _ w (PrV.is rfl rfl) (Below.refl _ _)))
  · intro a w5 hdf hsz hkp hval hRw
    obtain ⟨f, hf⟩ : ∃ f, f = fun d => a.tmps.getD d undef := ⟨_, rfl⟩
    have h30 : f 30 = .bool true := by rw [hf]; exact (hval 21 _ 30 rfl rfl).val rfl
    have hfa := act_filled hdf hsz hkp
    rw [← hf] at hfa
    rw [hfa]
    clear hdf hsz hkp hval hfa hf
    clear a
    simp only [fillAll, List.set_cons_zero, List.set_cons_succ, h30]
    clear h30
    have hq := hE
    have u1 : w5.heap[g + 1]? = some (.cells zJ 29 (0, 0)) := by rw [(hRw).block _ (by omega)]; exact r1.out
    have v1 := setRow_heap w5 (g + 1) _ zJ _ _ u1
    have DD := below_setRow (g := g + 1) (hbT.out _ (hRw)) (by omega) zJ
    replace u1 := hid u1
    replace v1 := hid v1
    go_wp2_with (refine wpList_store_row rfl 29 (.tmp 6) (.tmp 31) rfl (g + 1) zJ rfl rfl 29 _ u1.out (by kernel_rfl) rfl (jc_all job0) ?_)
    (try simp only [Exit.inBlock, Exit.then])
    refine bodyPost_ret (results_cell_tmp rfl _ _ (g + 1) 29 zJ (0, 0) _ rfl v1.out Try.underlying29 (by kernel_rfl)) rfl ?_
    rw [hgg.out]
    exact ⟨.inr ⟨by rw [hq.out]; decide, by rw [hq.out]; rfl⟩, DD⟩

set_option maxRecDepth 100000 in
set_option maxHeartbeats 2000000 in
theorem rbB (j : Job) (on now : Int) (C : Nat) (D : List Dp) (w : World) (h0 : 0 ≤ j.on) (h1 : j.on < 4294967296) (ho0 : 0 ≤ on) (ho1 : on < 4294967296) (hC : Nd.cnt on.toNat = C) (hD : D.length = j.s.dn) (hl : j.s.dn * 16 ≤ 140737488355328) (hat : DAt w j.s.da D) (hr : rightB j = true) (hcn : ¬ (C : Int) = j.s.nodes) (E : Int) (hE : E = 2) :
    Calls Try.prog 8 #[.agg (jc j).toArray, .int .u32 on, .int .i64 now] w fun e w' => BT (w.heap.size + 1 + 1) E (begun j on now) D e w' ∧ Below w.heap.size w w' := by
  have hst := st_make w j
  obtain ⟨W0, hW0⟩ : ∃ W0, W0 = (w.alloc (.cells (jc j).toArray 29)).alloc (.cells zJ 29) := ⟨_, rfl⟩
  rw [← hW0] at hst
  obtain ⟨r0, r1, hsz, bl⟩ := hst
  replace hE := hid hE
  have kR := fun w => rright_any j w h0 h1
  rw [hr] at kR
  have kL := fun w => listlen on ho0 ho1 w
  rw [hC] at kL
  have kA := fun w5 (hb : Below W0.heap.size W0 w5) => copyjob j D w5 hD hl ((hat.below bl).below hb)
  have c7 := row_cell r0 7 (.int .i64 j.s.nodes) rfl
  have c11 := row_cell r0 11 (.int .u8 j.st) rfl
  have c12 := row_cell r0 12 (.int .i64 j.sub) rfl
  have hg0 : w.heap.size < W0.heap.size := by omega
  have hbT := hid (fun w' (h : Below W0.heap.size W0 w') => bnext bl h)
  replace hC := hid hC
  replace r0 := hid r0
  replace r1 := hid r1
  replace hD := hid hD
  replace hat := hid hat
  replace hr := hid hr
  replace hcn := hid hcn
  go_enter Try.func8, Try.ntmps8
  go_wp2_with fail
  rw [← hW0]
  replace hW0 := hid hW0
  replace kA := hid kA
  generalize hgg : w.heap.size = g at *
  replace hgg := hid hgg
  refine wp_region_drawn (Rel := fun w w' => Below w.heap.size w w') (Pr := PrV (pwB g j on now C) [5] (fun _ v w => ∃ la lc, v = .slice la C lc)) (by kernel_rfl) (by kernel_rfl) (drew_below _) bel_tr (PrV.mono (fun _ _ _ _ h _ => h)) ?_ ?_
  · refine ⟨?_, ?_, ?_, ?_, ?_, ?_, ?_, ?_, ?_, ?_, ?_, ?_, ?_, ?_, ?_, ?_, ?_, ?_, ?_, ?_, ?_, ?_, trivial⟩
    · intro ac w hR hd hk K hK
      exact yes (want_n rfl) (wp_load_row 29 _ rfl g ((get_keep (hk 3 (no_dst (by kernel_rfl))) rfl)) 29 (jc j).toArray (0, 0) _ (by rw [hR.block _ hg0]; exact r0.out) Try.underlying29 rfl (by kernel_rfl) (hK _ w (PrV.is rfl rfl) (Below.refl _ _)))
    · exact fun ac w hR hd hk K hK => yes (want_n rfl) (wp_callv 15 _ _ rfl _ Try.func15 rfl rfl _ (args1 ((hd 0 _ 9 rfl rfl rfl).val rfl)) (kR w) (by rintro e w' ⟨rfl, hb⟩; exact ⟨_, rfl, hK _ w' (PrV.is rfl rfl) (hb)⟩))
    · intro ac w hR hd hk K hK
      have e10 : ac.tmps[10]?.getD undef = (.bool true : Value) := slot ((hd 1 _ 10 rfl rfl rfl).val rfl)
      refine yes (want_n rfl) ?_
      have hv := hid (hK (.bool false) w (PrV.is rfl rfl) (Below.refl _ _))
      go_simp
      refine kq hv.out ?_
      rfl
    · exact fun ac w hR hd hk K hK => yes (want_n rfl) (wp_mv _ rfl _ ((hd 2 _ 11 rfl rfl rfl).val rfl) (hK _ w (PrV.is rfl rfl) (Below.refl _ _)))
    · exact fun ac w hR hd hk K hK => yes (want_g rfl rfl ((hd 3 _ 12 rfl rfl rfl).val rfl)) (wp_mv _ rfl _ (get_keep (hk 1 (no_dst (by kernel_rfl))) rfl) (hK _ w (PrV.is rfl rfl) (Below.refl _ _)))
    · intro ac w hR hd hk K hK
      refine yes (want_g rfl rfl ((hd 3 _ 12 rfl rfl rfl).val rfl)) (wp_callv 29 _ _ rfl _ Try.func29 rfl rfl _ (args1 ((hd 4 _ 13 rfl rfl rfl).val rfl)) (kL w) ?_)
      rintro e w' ⟨la, lc, rfl, hb⟩
      exact ⟨_, rfl, hK _ w' (PrV.by rfl ⟨la, lc, rfl⟩) hb⟩
    · intro ac w hR hd hk K hK
      obtain ⟨la, lc, hv14⟩ := (hd 5 _ 14 rfl rfl rfl).out rfl
      have e14 : ac.tmps[14]?.getD undef = (.slice la C lc : Value) := slot hv14
      refine yes (want_g rfl rfl ((hd 3 _ 12 rfl rfl rfl).val rfl)) ?_
      have hv := hid (hK (.int .i64 (C : Int)) w (PrV.is rfl rfl) (Below.refl _ _))
      go_simp
      refine kq hv.out ?_
      rfl
    · intro ac w hR hd hk K hK
      have e3 : ac.tmps[3]?.getD undef = (.pointer (some ⟨g, 0, none⟩) : Value) := slot (get_keep (hk 3 (no_dst (by kernel_rfl))) rfl)
      refine yes (want_g rfl rfl ((hd 3 _ 12 rfl rfl rfl).val rfl)) ?_
      have hv := hid (hK (.pointer (some ⟨g, 3, none⟩)) w (PrV.is rfl rfl) (Below.refl _ _))
      go_simp
      refine kq hv.out ?_
      rfl
    · intro ac w hR hd hk K hK
      have e16 : ac.tmps[16]?.getD undef = (.pointer (some ⟨g, 3, none⟩) : Value) := slot ((hd 7 _ 16 rfl rfl rfl).val rfl)
      refine yes (want_g rfl rfl ((hd 3 _ 12 rfl rfl rfl).val rfl)) ?_
      have hv := hid (hK (.pointer (some ⟨g, 7, none⟩)) w (PrV.is rfl rfl) (Below.refl _ _))
      go_simp
      refine kq hv.out ?_
      rfl
    · intro ac w hR hd hk K hK
      have e17 : ac.tmps[17]?.getD undef = (.pointer (some ⟨g, 7, none⟩) : Value) := slot ((hd 8 _ 17 rfl rfl rfl).val rfl)
      have x7 := stay hR c7
      refine yes (want_g rfl rfl ((hd 3 _ 12 rfl rfl rfl).val rfl)) ?_
      have hv := hid (hK (.int .i64 j.s.nodes) w (PrV.is rfl rfl) (Below.refl _ _))
      go_simp
      refine kq hv.out ?_
      rfl
    · intro ac w hR hd hk K hK
      have e15 : ac.tmps[15]?.getD undef = (.int .i64 (C : Int) : Value) := slot ((hd 6 _ 15 rfl rfl rfl).val rfl)
      have e18 : ac.tmps[18]?.getD undef = (.int .i64 j.s.nodes : Value) := slot ((hd 9 _ 18 rfl rfl rfl).val rfl)
      have x1 := hcn.out
      refine yes (want_g rfl rfl ((hd 3 _ 12 rfl rfl rfl).val rfl)) ?_
      have hv := hid (hK (.bool true) w (PrV.is rfl rfl) (Below.refl _ _))
      go_simp
      refine kq hv.out ?_
      simp [x1]
    · exact fun ac w hR hd hk K hK => yes (want_n rfl) (wp_pick _ _ _ rfl false _ ((hd 3 _ 12 rfl rfl rfl).val rfl) ((hd 10 _ 19 rfl rfl rfl).val rfl) (hK _ w (PrV.is rfl rfl) (Below.refl _ _)))
    · exact fun ac w hR hd hk K hK => yes (want_n rfl) (wp_mv _ rfl _ ((hd 11 _ 20 rfl rfl rfl).val rfl) (hK _ w (PrV.is rfl rfl) (Below.refl _ _)))
    · exact fun ac w hR hd hk K hK => nope (want_f rfl rfl ((hd 12 _ 21 rfl rfl rfl).val rfl) (by decide)) (hK _ w (PrV.is rfl rfl) (Below.refl _ _))
    · exact fun ac w hR hd hk K hK => nope (want_f rfl rfl ((hd 12 _ 21 rfl rfl rfl).val rfl) (by decide)) (hK _ w (PrV.is rfl rfl) (Below.refl _ _))
    · exact fun ac w hR hd hk K hK => nope (want_f rfl rfl ((hd 12 _ 21 rfl rfl rfl).val rfl) (by decide)) (hK _ w (PrV.is rfl rfl) (Below.refl _ _))
    · exact fun ac w hR hd hk K hK => nope (want_f rfl rfl ((hd 12 _ 21 rfl rfl rfl).val rfl) (by decide)) (hK _ w (PrV.is rfl rfl) (Below.refl _ _))
    · exact fun ac w hR hd hk K hK => yes (want_n rfl) (wp_pick _ _ _ rfl true _ ((hd 12 _ 21 rfl rfl rfl).val rfl) rfl (hK _ w (PrV.is rfl rfl) (Below.refl _ _)))
    · exact fun ac w hR hd hk K hK => yes (want_n rfl) (wp_mv _ rfl _ ((hd 17 _ 26 rfl rfl rfl).val rfl) (hK _ w (PrV.is rfl rfl) (Below.refl _ _)))
    · exact fun ac w hR hd hk K hK => nope (want_f rfl rfl ((hd 18 _ 27 rfl rfl rfl).val rfl) (by decide)) (hK _ w (PrV.is rfl rfl) (Below.refl _ _))
    · exact fun ac w hR hd hk K hK => nope (want_f rfl rfl ((hd 18 _ 27 rfl rfl rfl).val rfl) (by decide)) (hK _ w (PrV.is rfl rfl) (Below.refl _ _))
    · exact fun ac w hR hd hk K hK => yes (want_n rfl) (wp_pick _ _ _ rfl true _ ((hd 18 _ 27 rfl rfl rfl).val rfl) rfl (hK _ w (PrV.is rfl rfl) (Below.refl _ _)))
  · intro a w5 hdf hsz hkp hval hRw
    obtain ⟨f, hf⟩ : ∃ f, f = fun d => a.tmps.getD d undef := ⟨_, rfl⟩
    have h30 : f 30 = .bool true := by rw [hf]; exact (hval 21 _ 30 rfl rfl).val rfl
    have hfa := act_filled hdf hsz hkp
    rw [← hf] at hfa
    rw [hfa]
    clear hdf hsz hkp hval hfa hf
    clear a
    simp only [fillAll, List.set_cons_zero, List.set_cons_succ, h30]
    clear h30
    have hq := hE
    have u1 : w5.heap[g + 1]? = some (.cells zJ 29 (0, 0)) := by rw [(hRw).block _ (by omega)]; exact r1.out
    have v1 := setRow_heap w5 (g + 1) _ zJ _ _ u1
    have DD := below_setRow (g := g + 1) (hbT.out _ (hRw)) (by omega) zJ
    replace u1 := hid u1
    replace v1 := hid v1
    go_wp2_with (refine wpList_store_row rfl 29 (.tmp 6) (.tmp 31) rfl (g + 1) zJ rfl rfl 29 _ u1.out (by kernel_rfl) rfl (jc_all job0) ?_)
    (try simp only [Exit.inBlock, Exit.then])
    refine bodyPost_ret (results_cell_tmp rfl _ _ (g + 1) 29 zJ (0, 0) _ rfl v1.out Try.underlying29 (by kernel_rfl)) rfl ?_
    rw [hgg.out]
    exact ⟨.inr ⟨by rw [hq.out]; decide, by rw [hq.out]; rfl⟩, DD⟩

set_option maxRecDepth 100000 in
set_option maxHeartbeats 2000000 in
theorem rbC (j : Job) (on now : Int) (C : Nat) (D : List Dp) (w : World) (h0 : 0 ≤ j.on) (h1 : j.on < 4294967296) (ho0 : 0 ≤ on) (ho1 : on < 4294967296) (hC : Nd.cnt on.toNat = C) (hD : D.length = j.s.dn) (hl : j.s.dn * 16 ≤ 140737488355328) (hat : DAt w j.s.da D) (hr : rightB j = true) (hcn : (C : Int) = j.s.nodes) (hlo : now < j.sub) (E : Int) (hE : E = 2) :
    Calls Try.prog 8 #[.agg (jc j).toArray, .int .u32 on, .int .i64 now] w fun e w' => BT (w.heap.size + 1 + 1) E (begun j on now) D e w' ∧ Below w.heap.size w w' := by
  have hst := st_make w j
  obtain ⟨W0, hW0⟩ : ∃ W0, W0 = (w.alloc (.cells (jc j).toArray 29)).alloc (.cells zJ 29) := ⟨_, rfl⟩
  rw [← hW0] at hst
  obtain ⟨r0, r1, hsz, bl⟩ := hst
  replace hE := hid hE
  have kR := fun w => rright_any j w h0 h1
  rw [hr] at kR
  have kL := fun w => listlen on ho0 ho1 w
  rw [hC] at kL
  have kA := fun w5 (hb : Below W0.heap.size W0 w5) => copyjob j D w5 hD hl ((hat.below bl).below hb)
  have c7 := row_cell r0 7 (.int .i64 j.s.nodes) rfl
  have c11 := row_cell r0 11 (.int .u8 j.st) rfl
  have c12 := row_cell r0 12 (.int .i64 j.sub) rfl
  have hg0 : w.heap.size < W0.heap.size := by omega
  have hbT := hid (fun w' (h : Below W0.heap.size W0 w') => bnext bl h)
  replace hC := hid hC
  replace r0 := hid r0
  replace r1 := hid r1
  replace hD := hid hD
  replace hat := hid hat
  replace hr := hid hr
  replace hcn := hid hcn
  replace hlo := hid hlo
  go_enter Try.func8, Try.ntmps8
  go_wp2_with fail
  rw [← hW0]
  replace hW0 := hid hW0
  replace kA := hid kA
  generalize hgg : w.heap.size = g at *
  replace hgg := hid hgg
  refine wp_region_drawn (Rel := fun w w' => Below w.heap.size w w') (Pr := PrV (pwC g j on now C) [5] (fun _ v w => ∃ la lc, v = .slice la C lc)) (by kernel_rfl) (by kernel_rfl) (drew_below _) bel_tr (PrV.mono (fun _ _ _ _ h _ => h)) ?_ ?_
  · refine ⟨?_, ?_, ?_, ?_, ?_, ?_, ?_, ?_, ?_, ?_, ?_, ?_, ?_, ?_, ?_, ?_, ?_, ?_, ?_, ?_, ?_, ?_, trivial⟩
    · intro ac w hR hd hk K hK
      exact yes (want_n rfl) (wp_load_row 29 _ rfl g ((get_keep (hk 3 (no_dst (by kernel_rfl))) rfl)) 29 (jc j).toArray (0, 0) _ (by rw [hR.block _ hg0]; exact r0.out) Try.underlying29 rfl (by kernel_rfl) (hK _ w (PrV.is rfl rfl) (Below.refl _ _)))
    · exact fun ac w hR hd hk K hK => yes (want_n rfl) (wp_callv 15 _ _ rfl _ Try.func15 rfl rfl _ (args1 ((hd 0 _ 9 rfl rfl rfl).val rfl)) (kR w) (by rintro e w' ⟨rfl, hb⟩; exact ⟨_, rfl, hK _ w' (PrV.is rfl rfl) (hb)⟩))
    · intro ac w hR hd hk K hK
      have e10 : ac.tmps[10]?.getD undef = (.bool true : Value) := slot ((hd 1 _ 10 rfl rfl rfl).val rfl)
      refine yes (want_n rfl) ?_
      have hv := hid (hK (.bool false) w (PrV.is rfl rfl) (Below.refl _ _))
      go_simp
      refine kq hv.out ?_
      rfl
    · exact fun ac w hR hd hk K hK => yes (want_n rfl) (wp_mv _ rfl _ ((hd 2 _ 11 rfl rfl rfl).val rfl) (hK _ w (PrV.is rfl rfl) (Below.refl _ _)))
    · exact fun ac w hR hd hk K hK => yes (want_g rfl rfl ((hd 3 _ 12 rfl rfl rfl).val rfl)) (wp_mv _ rfl _ (get_keep (hk 1 (no_dst (by kernel_rfl))) rfl) (hK _ w (PrV.is rfl rfl) (Below.refl _ _)))
    · intro ac w hR hd hk K hK
      refine yes (want_g rfl rfl ((hd 3 _ 12 rfl rfl rfl).val rfl)) (wp_callv 29 _ _ rfl _ Try.func29 rfl rfl _ (args1 ((hd 4 _ 13 rfl rfl rfl).val rfl)) (kL w) ?_)
      rintro e w' ⟨la, lc, rfl, hb⟩
      exact ⟨_, rfl, hK _ w' (PrV.by rfl ⟨la, lc, rfl⟩) hb⟩
    · intro ac w hR hd hk K hK
      obtain ⟨la, lc, hv14⟩ := (hd 5 _ 14 rfl rfl rfl).out rfl
      have e14 : ac.tmps[14]?.getD undef = (.slice la C lc : Value) := slot hv14
      refine yes (want_g rfl rfl ((hd 3 _ 12 rfl rfl rfl).val rfl)) ?_
      have hv := hid (hK (.int .i64 (C : Int)) w (PrV.is rfl rfl) (Below.refl _ _))
      go_simp
      refine kq hv.out ?_
      rfl
    · intro ac w hR hd hk K hK
      have e3 : ac.tmps[3]?.getD undef = (.pointer (some ⟨g, 0, none⟩) : Value) := slot (get_keep (hk 3 (no_dst (by kernel_rfl))) rfl)
      refine yes (want_g rfl rfl ((hd 3 _ 12 rfl rfl rfl).val rfl)) ?_
      have hv := hid (hK (.pointer (some ⟨g, 3, none⟩)) w (PrV.is rfl rfl) (Below.refl _ _))
      go_simp
      refine kq hv.out ?_
      rfl
    · intro ac w hR hd hk K hK
      have e16 : ac.tmps[16]?.getD undef = (.pointer (some ⟨g, 3, none⟩) : Value) := slot ((hd 7 _ 16 rfl rfl rfl).val rfl)
      refine yes (want_g rfl rfl ((hd 3 _ 12 rfl rfl rfl).val rfl)) ?_
      have hv := hid (hK (.pointer (some ⟨g, 7, none⟩)) w (PrV.is rfl rfl) (Below.refl _ _))
      go_simp
      refine kq hv.out ?_
      rfl
    · intro ac w hR hd hk K hK
      have e17 : ac.tmps[17]?.getD undef = (.pointer (some ⟨g, 7, none⟩) : Value) := slot ((hd 8 _ 17 rfl rfl rfl).val rfl)
      have x7 := stay hR c7
      refine yes (want_g rfl rfl ((hd 3 _ 12 rfl rfl rfl).val rfl)) ?_
      have hv := hid (hK (.int .i64 j.s.nodes) w (PrV.is rfl rfl) (Below.refl _ _))
      go_simp
      refine kq hv.out ?_
      rfl
    · intro ac w hR hd hk K hK
      have e15 : ac.tmps[15]?.getD undef = (.int .i64 (C : Int) : Value) := slot ((hd 6 _ 15 rfl rfl rfl).val rfl)
      have e18 : ac.tmps[18]?.getD undef = (.int .i64 j.s.nodes : Value) := slot ((hd 9 _ 18 rfl rfl rfl).val rfl)
      have x1 := hcn.out
      refine yes (want_g rfl rfl ((hd 3 _ 12 rfl rfl rfl).val rfl)) ?_
      have hv := hid (hK (.bool false) w (PrV.is rfl rfl) (Below.refl _ _))
      go_simp
      refine kq hv.out ?_
      simp [x1]
    · exact fun ac w hR hd hk K hK => yes (want_n rfl) (wp_pick _ _ _ rfl false _ ((hd 3 _ 12 rfl rfl rfl).val rfl) ((hd 10 _ 19 rfl rfl rfl).val rfl) (hK _ w (PrV.is rfl rfl) (Below.refl _ _)))
    · exact fun ac w hR hd hk K hK => yes (want_n rfl) (wp_mv _ rfl _ ((hd 11 _ 20 rfl rfl rfl).val rfl) (hK _ w (PrV.is rfl rfl) (Below.refl _ _)))
    · exact fun ac w hR hd hk K hK => yes (want_g rfl rfl ((hd 12 _ 21 rfl rfl rfl).val rfl)) (wp_mv _ rfl _ (get_keep (hk 2 (no_dst (by kernel_rfl))) rfl) (hK _ w (PrV.is rfl rfl) (Below.refl _ _)))
    · intro ac w hR hd hk K hK
      have e3 : ac.tmps[3]?.getD undef = (.pointer (some ⟨g, 0, none⟩) : Value) := slot (get_keep (hk 3 (no_dst (by kernel_rfl))) rfl)
      refine yes (want_g rfl rfl ((hd 12 _ 21 rfl rfl rfl).val rfl)) ?_
      have hv := hid (hK (.pointer (some ⟨g, 12, none⟩)) w (PrV.is rfl rfl) (Below.refl _ _))
      go_simp
      refine kq hv.out ?_
      rfl
    · intro ac w hR hd hk K hK
      have e23 : ac.tmps[23]?.getD undef = (.pointer (some ⟨g, 12, none⟩) : Value) := slot ((hd 14 _ 23 rfl rfl rfl).val rfl)
      have x12 := stay hR c12
      refine yes (want_g rfl rfl ((hd 12 _ 21 rfl rfl rfl).val rfl)) ?_
      have hv := hid (hK (.int .i64 j.sub) w (PrV.is rfl rfl) (Below.refl _ _))
      go_simp
      refine kq hv.out ?_
      rfl
    · intro ac w hR hd hk K hK
      have e22 : ac.tmps[22]?.getD undef = (.int .i64 now : Value) := slot ((hd 13 _ 22 rfl rfl rfl).val rfl)
      have e24 : ac.tmps[24]?.getD undef = (.int .i64 j.sub : Value) := slot ((hd 15 _ 24 rfl rfl rfl).val rfl)
      have x1 := hlo.out
      refine yes (want_g rfl rfl ((hd 12 _ 21 rfl rfl rfl).val rfl)) ?_
      have hv := hid (hK (.bool true) w (PrV.is rfl rfl) (Below.refl _ _))
      go_simp
      refine kq hv.out ?_
      simp [x1]
    · exact fun ac w hR hd hk K hK => yes (want_n rfl) (wp_pick _ _ _ rfl false _ ((hd 12 _ 21 rfl rfl rfl).val rfl) ((hd 16 _ 25 rfl rfl rfl).val rfl) (hK _ w (PrV.is rfl rfl) (Below.refl _ _)))
    · exact fun ac w hR hd hk K hK => yes (want_n rfl) (wp_mv _ rfl _ ((hd 17 _ 26 rfl rfl rfl).val rfl) (hK _ w (PrV.is rfl rfl) (Below.refl _ _)))
    · exact fun ac w hR hd hk K hK => nope (want_f rfl rfl ((hd 18 _ 27 rfl rfl rfl).val rfl) (by decide)) (hK _ w (PrV.is rfl rfl) (Below.refl _ _))
    · exact fun ac w hR hd hk K hK => nope (want_f rfl rfl ((hd 18 _ 27 rfl rfl rfl).val rfl) (by decide)) (hK _ w (PrV.is rfl rfl) (Below.refl _ _))
    · exact fun ac w hR hd hk K hK => yes (want_n rfl) (wp_pick _ _ _ rfl true _ ((hd 18 _ 27 rfl rfl rfl).val rfl) rfl (hK _ w (PrV.is rfl rfl) (Below.refl _ _)))
  · intro a w5 hdf hsz hkp hval hRw
    obtain ⟨f, hf⟩ : ∃ f, f = fun d => a.tmps.getD d undef := ⟨_, rfl⟩
    have h30 : f 30 = .bool true := by rw [hf]; exact (hval 21 _ 30 rfl rfl).val rfl
    have hfa := act_filled hdf hsz hkp
    rw [← hf] at hfa
    rw [hfa]
    clear hdf hsz hkp hval hfa hf
    clear a
    simp only [fillAll, List.set_cons_zero, List.set_cons_succ, h30]
    clear h30
    have hq := hE
    have u1 : w5.heap[g + 1]? = some (.cells zJ 29 (0, 0)) := by rw [(hRw).block _ (by omega)]; exact r1.out
    have v1 := setRow_heap w5 (g + 1) _ zJ _ _ u1
    have DD := below_setRow (g := g + 1) (hbT.out _ (hRw)) (by omega) zJ
    replace u1 := hid u1
    replace v1 := hid v1
    go_wp2_with (refine wpList_store_row rfl 29 (.tmp 6) (.tmp 31) rfl (g + 1) zJ rfl rfl 29 _ u1.out (by kernel_rfl) rfl (jc_all job0) ?_)
    (try simp only [Exit.inBlock, Exit.then])
    refine bodyPost_ret (results_cell_tmp rfl _ _ (g + 1) 29 zJ (0, 0) _ rfl v1.out Try.underlying29 (by kernel_rfl)) rfl ?_
    rw [hgg.out]
    exact ⟨.inr ⟨by rw [hq.out]; decide, by rw [hq.out]; rfl⟩, DD⟩

set_option maxRecDepth 100000 in
set_option maxHeartbeats 2000000 in
theorem rbD (j : Job) (on now : Int) (C : Nat) (D : List Dp) (w : World) (h0 : 0 ≤ j.on) (h1 : j.on < 4294967296) (ho0 : 0 ≤ on) (ho1 : on < 4294967296) (hC : Nd.cnt on.toNat = C) (hD : D.length = j.s.dn) (hl : j.s.dn * 16 ≤ 140737488355328) (hat : DAt w j.s.da D) (hr : rightB j = true) (hcn : (C : Int) = j.s.nodes) (hlo : ¬ now < j.sub) (hhi : 1099511627776 < now) (E : Int) (hE : E = 2) :
    Calls Try.prog 8 #[.agg (jc j).toArray, .int .u32 on, .int .i64 now] w fun e w' => BT (w.heap.size + 1 + 1) E (begun j on now) D e w' ∧ Below w.heap.size w w' := by
  have hst := st_make w j
  obtain ⟨W0, hW0⟩ : ∃ W0, W0 = (w.alloc (.cells (jc j).toArray 29)).alloc (.cells zJ 29) := ⟨_, rfl⟩
  rw [← hW0] at hst
  obtain ⟨r0, r1, hsz, bl⟩ := hst
  replace hE := hid hE
  have kR := fun w => rright_any j w h0 h1
  rw [hr] at kR
  have kL := fun w => listlen on ho0 ho1 w
  rw [hC] at kL
  have kA := fun w5 (hb : Below W0.heap.size W0 w5) => copyjob j D w5 hD hl ((hat.below bl).below hb)
  have c7 := row_cell r0 7 (.int .i64 j.s.nodes) rfl
  have c11 := row_cell r0 11 (.int .u8 j.st) rfl
  have c12 := row_cell r0 12 (.int .i64 j.sub) rfl
  have hg0 : w.heap.size < W0.heap.size := by omega
  have hbT := hid (fun w' (h : Below W0.heap.size W0 w') => bnext bl h)
  replace hC := hid hC
  replace r0 := hid r0
  replace r1 := hid r1
  replace hD := hid hD
  replace hat := hid hat
  replace hr := hid hr
  replace hcn := hid hcn
  replace hlo := hid hlo
  replace hhi := hid hhi
  go_enter Try.func8, Try.ntmps8
  go_wp2_with fail
  rw [← hW0]
  replace hW0 := hid hW0
  replace kA := hid kA
  generalize hgg : w.heap.size = g at *
  replace hgg := hid hgg
  refine wp_region_drawn (Rel := fun w w' => Below w.heap.size w w') (Pr := PrV (pwD g j on now C) [5] (fun _ v w => ∃ la lc, v = .slice la C lc)) (by kernel_rfl) (by kernel_rfl) (drew_below _) bel_tr (PrV.mono (fun _ _ _ _ h _ => h)) ?_ ?_
  · refine ⟨?_, ?_, ?_, ?_, ?_, ?_, ?_, ?_, ?_, ?_, ?_, ?_, ?_, ?_, ?_, ?_, ?_, ?_, ?_, ?_, ?_, ?_, trivial⟩
    · intro ac w hR hd hk K hK
      exact yes (want_n rfl) (wp_load_row 29 _ rfl g ((get_keep (hk 3 (no_dst (by kernel_rfl))) rfl)) 29 (jc j).toArray (0, 0) _ (by rw [hR.block _ hg0]; exact r0.out) Try.underlying29 rfl (by kernel_rfl) (hK _ w (PrV.is rfl rfl) (Below.refl _ _)))
    · exact fun ac w hR hd hk K hK => yes (want_n rfl) (wp_callv 15 _ _ rfl _ Try.func15 rfl rfl _ (args1 ((hd 0 _ 9 rfl rfl rfl).val rfl)) (kR w) (by rintro e w' ⟨rfl, hb⟩; exact ⟨_, rfl, hK _ w' (PrV.is rfl rfl) (hb)⟩))
    · intro ac w hR hd hk K hK
      have e10 : ac.tmps[10]?.getD undef = (.bool true : Value) := slot ((hd 1 _ 10 rfl rfl rfl).val rfl)
      refine yes (want_n rfl) ?_
      have hv := hid (hK (.bool false) w (PrV.is rfl rfl) (Below.refl _ _))
      go_simp
      refine kq hv.out ?_
      rfl
    · exact fun ac w hR hd hk K hK => yes (want_n rfl) (wp_mv _ rfl _ ((hd 2 _ 11 rfl rfl rfl).val rfl) (hK _ w (PrV.is rfl rfl) (Below.refl _ _)))
    · exact fun ac w hR hd hk K hK => yes (want_g rfl rfl ((hd 3 _ 12 rfl rfl rfl).val rfl)) (wp_mv _ rfl _ (get_keep (hk 1 (no_dst (by kernel_rfl))) rfl) (hK _ w (PrV.is rfl rfl) (Below.refl _ _)))
    · intro ac w hR hd hk K hK
      refine yes (want_g rfl rfl ((hd 3 _ 12 rfl rfl rfl).val rfl)) (wp_callv 29 _ _ rfl _ Try.func29 rfl rfl _ (args1 ((hd 4 _ 13 rfl rfl rfl).val rfl)) (kL w) ?_)
      rintro e w' ⟨la, lc, rfl, hb⟩
      exact ⟨_, rfl, hK _ w' (PrV.by rfl ⟨la, lc, rfl⟩) hb⟩
    · intro ac w hR hd hk K hK
      obtain ⟨la, lc, hv14⟩ := (hd 5 _ 14 rfl rfl rfl).out rfl
      have e14 : ac.tmps[14]?.getD undef = (.slice la C lc : Value) := slot hv14
      refine yes (want_g rfl rfl ((hd 3 _ 12 rfl rfl rfl).val rfl)) ?_
      have hv := hid (hK (.int .i64 (C : Int)) w (PrV.is rfl rfl) (Below.refl _ _))
      go_simp
      refine kq hv.out ?_
      rfl
    · intro ac w hR hd hk K hK
      have e3 : ac.tmps[3]?.getD undef = (.pointer (some ⟨g, 0, none⟩) : Value) := slot (get_keep (hk 3 (no_dst (by kernel_rfl))) rfl)
      refine yes (want_g rfl rfl ((hd 3 _ 12 rfl rfl rfl).val rfl)) ?_
      have hv := hid (hK (.pointer (some ⟨g, 3, none⟩)) w (PrV.is rfl rfl) (Below.refl _ _))
      go_simp
      refine kq hv.out ?_
      rfl
    · intro ac w hR hd hk K hK
      have e16 : ac.tmps[16]?.getD undef = (.pointer (some ⟨g, 3, none⟩) : Value) := slot ((hd 7 _ 16 rfl rfl rfl).val rfl)
      refine yes (want_g rfl rfl ((hd 3 _ 12 rfl rfl rfl).val rfl)) ?_
      have hv := hid (hK (.pointer (some ⟨g, 7, none⟩)) w (PrV.is rfl rfl) (Below.refl _ _))
      go_simp
      refine kq hv.out ?_
      rfl
    · intro ac w hR hd hk K hK
      have e17 : ac.tmps[17]?.getD undef = (.pointer (some ⟨g, 7, none⟩) : Value) := slot ((hd 8 _ 17 rfl rfl rfl).val rfl)
      have x7 := stay hR c7
      refine yes (want_g rfl rfl ((hd 3 _ 12 rfl rfl rfl).val rfl)) ?_
      have hv := hid (hK (.int .i64 j.s.nodes) w (PrV.is rfl rfl) (Below.refl _ _))
      go_simp
      refine kq hv.out ?_
      rfl
    · intro ac w hR hd hk K hK
      have e15 : ac.tmps[15]?.getD undef = (.int .i64 (C : Int) : Value) := slot ((hd 6 _ 15 rfl rfl rfl).val rfl)
      have e18 : ac.tmps[18]?.getD undef = (.int .i64 j.s.nodes : Value) := slot ((hd 9 _ 18 rfl rfl rfl).val rfl)
      have x1 := hcn.out
      refine yes (want_g rfl rfl ((hd 3 _ 12 rfl rfl rfl).val rfl)) ?_
      have hv := hid (hK (.bool false) w (PrV.is rfl rfl) (Below.refl _ _))
      go_simp
      refine kq hv.out ?_
      simp [x1]
    · exact fun ac w hR hd hk K hK => yes (want_n rfl) (wp_pick _ _ _ rfl false _ ((hd 3 _ 12 rfl rfl rfl).val rfl) ((hd 10 _ 19 rfl rfl rfl).val rfl) (hK _ w (PrV.is rfl rfl) (Below.refl _ _)))
    · exact fun ac w hR hd hk K hK => yes (want_n rfl) (wp_mv _ rfl _ ((hd 11 _ 20 rfl rfl rfl).val rfl) (hK _ w (PrV.is rfl rfl) (Below.refl _ _)))
    · exact fun ac w hR hd hk K hK => yes (want_g rfl rfl ((hd 12 _ 21 rfl rfl rfl).val rfl)) (wp_mv _ rfl _ (get_keep (hk 2 (no_dst (by kernel_rfl))) rfl) (hK _ w (PrV.is rfl rfl) (Below.refl _ _)))
    · intro ac w hR hd hk K hK
      have e3 : ac.tmps[3]?.getD undef = (.pointer (some ⟨g, 0, none⟩) : Value) := slot (get_keep (hk 3 (no_dst (by kernel_rfl))) rfl)
      refine yes (want_g rfl rfl ((hd 12 _ 21 rfl rfl rfl).val rfl)) ?_
      have hv := hid (hK (.pointer (some ⟨g, 12, none⟩)) w (PrV.is rfl rfl) (Below.refl _ _))
      go_simp
      refine kq hv.out ?_
      rfl
    · intro ac w hR hd hk K hK
      have e23 : ac.tmps[23]?.getD undef = (.pointer (some ⟨g, 12, none⟩) : Value) := slot ((hd 14 _ 23 rfl rfl rfl).val rfl)
      have x12 := stay hR c12
      refine yes (want_g rfl rfl ((hd 12 _ 21 rfl rfl rfl).val rfl)) ?_
      have hv := hid (hK (.int .i64 j.sub) w (PrV.is rfl rfl) (Below.refl _ _))
      go_simp
      refine kq hv.out ?_
      rfl
    · intro ac w hR hd hk K hK
      have e22 : ac.tmps[22]?.getD undef = (.int .i64 now : Value) := slot ((hd 13 _ 22 rfl rfl rfl).val rfl)
      have e24 : ac.tmps[24]?.getD undef = (.int .i64 j.sub : Value) := slot ((hd 15 _ 24 rfl rfl rfl).val rfl)
      have x1 := hlo.out
      refine yes (want_g rfl rfl ((hd 12 _ 21 rfl rfl rfl).val rfl)) ?_
      have hv := hid (hK (.bool false) w (PrV.is rfl rfl) (Below.refl _ _))
      go_simp
      refine kq hv.out ?_
      simp [x1]
    · exact fun ac w hR hd hk K hK => yes (want_n rfl) (wp_pick _ _ _ rfl false _ ((hd 12 _ 21 rfl rfl rfl).val rfl) ((hd 16 _ 25 rfl rfl rfl).val rfl) (hK _ w (PrV.is rfl rfl) (Below.refl _ _)))
    · exact fun ac w hR hd hk K hK => yes (want_n rfl) (wp_mv _ rfl _ ((hd 17 _ 26 rfl rfl rfl).val rfl) (hK _ w (PrV.is rfl rfl) (Below.refl _ _)))
    · exact fun ac w hR hd hk K hK => yes (want_g rfl rfl ((hd 18 _ 27 rfl rfl rfl).val rfl)) (wp_mv _ rfl _ (get_keep (hk 2 (no_dst (by kernel_rfl))) rfl) (hK _ w (PrV.is rfl rfl) (Below.refl _ _)))
    · intro ac w hR hd hk K hK
      have e28 : ac.tmps[28]?.getD undef = (.int .i64 now : Value) := slot ((hd 19 _ 28 rfl rfl rfl).val rfl)
      have x1 := hhi.out
      refine yes (want_g rfl rfl ((hd 18 _ 27 rfl rfl rfl).val rfl)) ?_
      have hv := hid (hK (.bool true) w (PrV.is rfl rfl) (Below.refl _ _))
      go_simp
      refine kq hv.out ?_
      simp [x1]
    · exact fun ac w hR hd hk K hK => yes (want_n rfl) (wp_pick _ _ _ rfl false _ ((hd 18 _ 27 rfl rfl rfl).val rfl) ((hd 20 _ 29 rfl rfl rfl).val rfl) (hK _ w (PrV.is rfl rfl) (Below.refl _ _)))
  · intro a w5 hdf hsz hkp hval hRw
    obtain ⟨f, hf⟩ : ∃ f, f = fun d => a.tmps.getD d undef := ⟨_, rfl⟩
    have h30 : f 30 = .bool true := by rw [hf]; exact (hval 21 _ 30 rfl rfl).val rfl
    have hfa := act_filled hdf hsz hkp
    rw [← hf] at hfa
    rw [hfa]
    clear hdf hsz hkp hval hfa hf
    clear a
    simp only [fillAll, List.set_cons_zero, List.set_cons_succ, h30]
    clear h30
    have hq := hE
    have u1 : w5.heap[g + 1]? = some (.cells zJ 29 (0, 0)) := by rw [(hRw).block _ (by omega)]; exact r1.out
    have v1 := setRow_heap w5 (g + 1) _ zJ _ _ u1
    have DD := below_setRow (g := g + 1) (hbT.out _ (hRw)) (by omega) zJ
    replace u1 := hid u1
    replace v1 := hid v1
    go_wp2_with (refine wpList_store_row rfl 29 (.tmp 6) (.tmp 31) rfl (g + 1) zJ rfl rfl 29 _ u1.out (by kernel_rfl) rfl (jc_all job0) ?_)
    (try simp only [Exit.inBlock, Exit.then])
    refine bodyPost_ret (results_cell_tmp rfl _ _ (g + 1) 29 zJ (0, 0) _ rfl v1.out Try.underlying29 (by kernel_rfl)) rfl ?_
    rw [hgg.out]
    exact ⟨.inr ⟨by rw [hq.out]; decide, by rw [hq.out]; rfl⟩, DD⟩

set_option maxRecDepth 100000 in
set_option maxHeartbeats 2000000 in
theorem rbE (j : Job) (on now : Int) (C : Nat) (D : List Dp) (w : World) (h0 : 0 ≤ j.on) (h1 : j.on < 4294967296) (ho0 : 0 ≤ on) (ho1 : on < 4294967296) (hC : Nd.cnt on.toNat = C) (hD : D.length = j.s.dn) (hl : j.s.dn * 16 ≤ 140737488355328) (hat : DAt w j.s.da D) (hr : rightB j = true) (hcn : (C : Int) = j.s.nodes) (hlo : ¬ now < j.sub) (hhi : ¬ 1099511627776 < now) (E : Int) (hE : E = (if j.st = 1 then 0 else 180)) :
    Calls Try.prog 8 #[.agg (jc j).toArray, .int .u32 on, .int .i64 now] w fun e w' => BT (w.heap.size + 1 + 1) E (begun j on now) D e w' ∧ Below w.heap.size w w' := by
  have hst := st_make w j
  obtain ⟨W0, hW0⟩ : ∃ W0, W0 = (w.alloc (.cells (jc j).toArray 29)).alloc (.cells zJ 29) := ⟨_, rfl⟩
  rw [← hW0] at hst
  obtain ⟨r0, r1, hsz, bl⟩ := hst
  replace hE := hid hE
  have kR := fun w => rright_any j w h0 h1
  rw [hr] at kR
  have kL := fun w => listlen on ho0 ho1 w
  rw [hC] at kL
  have kA := fun w5 (hb : Below W0.heap.size W0 w5) => copyjob j D w5 hD hl ((hat.below bl).below hb)
  have c7 := row_cell r0 7 (.int .i64 j.s.nodes) rfl
  have c11 := row_cell r0 11 (.int .u8 j.st) rfl
  have c12 := row_cell r0 12 (.int .i64 j.sub) rfl
  have hg0 : w.heap.size < W0.heap.size := by omega
  have hbT := hid (fun w' (h : Below W0.heap.size W0 w') => bnext bl h)
  replace hC := hid hC
  replace r0 := hid r0
  replace r1 := hid r1
  replace hD := hid hD
  replace hat := hid hat
  replace hr := hid hr
  replace hcn := hid hcn
  replace hlo := hid hlo
  replace hhi := hid hhi
  go_enter Try.func8, Try.ntmps8
  go_wp2_with fail
  rw [← hW0]
  replace hW0 := hid hW0
  replace kA := hid kA
  generalize hgg : w.heap.size = g at *
  replace hgg := hid hgg
  refine wp_region_drawn (Rel := fun w w' => Below w.heap.size w w') (Pr := PrV (pwE g j on now C) [5] (fun _ v w => ∃ la lc, v = .slice la C lc)) (by kernel_rfl) (by kernel_rfl) (drew_below _) bel_tr (PrV.mono (fun _ _ _ _ h _ => h)) ?_ ?_
  · refine ⟨?_, ?_, ?_, ?_, ?_, ?_, ?_, ?_, ?_, ?_, ?_, ?_, ?_, ?_, ?_, ?_, ?_, ?_, ?_, ?_, ?_, ?_, trivial⟩
    · intro ac w hR hd hk K hK
      exact yes (want_n rfl) (wp_load_row 29 _ rfl g ((get_keep (hk 3 (no_dst (by kernel_rfl))) rfl)) 29 (jc j).toArray (0, 0) _ (by rw [hR.block _ hg0]; exact r0.out) Try.underlying29 rfl (by kernel_rfl) (hK _ w (PrV.is rfl rfl) (Below.refl _ _)))
    · exact fun ac w hR hd hk K hK => yes (want_n rfl) (wp_callv 15 _ _ rfl _ Try.func15 rfl rfl _ (args1 ((hd 0 _ 9 rfl rfl rfl).val rfl)) (kR w) (by rintro e w' ⟨rfl, hb⟩; exact ⟨_, rfl, hK _ w' (PrV.is rfl rfl) (hb)⟩))
    · intro ac w hR hd hk K hK
      have e10 : ac.tmps[10]?.getD undef = (.bool true : Value) := slot ((hd 1 _ 10 rfl rfl rfl).val rfl)
      refine yes (want_n rfl) ?_
      have hv := hid (hK (.bool false) w (PrV.is rfl rfl) (Below.refl _ _))
      go_simp
      refine kq hv.out ?_
      rfl
    · exact fun ac w hR hd hk K hK => yes (want_n rfl) (wp_mv _ rfl _ ((hd 2 _ 11 rfl rfl rfl).val rfl) (hK _ w (PrV.is rfl rfl) (Below.refl _ _)))
    · exact fun ac w hR hd hk K hK => yes (want_g rfl rfl ((hd 3 _ 12 rfl rfl rfl).val rfl)) (wp_mv _ rfl _ (get_keep (hk 1 (no_dst (by kernel_rfl))) rfl) (hK _ w (PrV.is rfl rfl) (Below.refl _ _)))
    · intro ac w hR hd hk K hK
      refine yes (want_g rfl rfl ((hd 3 _ 12 rfl rfl rfl).val rfl)) (wp_callv 29 _ _ rfl _ Try.func29 rfl rfl _ (args1 ((hd 4 _ 13 rfl rfl rfl).val rfl)) (kL w) ?_)
      rintro e w' ⟨la, lc, rfl, hb⟩
      exact ⟨_, rfl, hK _ w' (PrV.by rfl ⟨la, lc, rfl⟩) hb⟩
    · intro ac w hR hd hk K hK
      obtain ⟨la, lc, hv14⟩ := (hd 5 _ 14 rfl rfl rfl).out rfl
      have e14 : ac.tmps[14]?.getD undef = (.slice la C lc : Value) := slot hv14
      refine yes (want_g rfl rfl ((hd 3 _ 12 rfl rfl rfl).val rfl)) ?_
      have hv := hid (hK (.int .i64 (C : Int)) w (PrV.is rfl rfl) (Below.refl _ _))
      go_simp
      refine kq hv.out ?_
      rfl
    · intro ac w hR hd hk K hK
      have e3 : ac.tmps[3]?.getD undef = (.pointer (some ⟨g, 0, none⟩) : Value) := slot (get_keep (hk 3 (no_dst (by kernel_rfl))) rfl)
      refine yes (want_g rfl rfl ((hd 3 _ 12 rfl rfl rfl).val rfl)) ?_
      have hv := hid (hK (.pointer (some ⟨g, 3, none⟩)) w (PrV.is rfl rfl) (Below.refl _ _))
      go_simp
      refine kq hv.out ?_
      rfl
    · intro ac w hR hd hk K hK
      have e16 : ac.tmps[16]?.getD undef = (.pointer (some ⟨g, 3, none⟩) : Value) := slot ((hd 7 _ 16 rfl rfl rfl).val rfl)
      refine yes (want_g rfl rfl ((hd 3 _ 12 rfl rfl rfl).val rfl)) ?_
      have hv := hid (hK (.pointer (some ⟨g, 7, none⟩)) w (PrV.is rfl rfl) (Below.refl _ _))
      go_simp
      refine kq hv.out ?_
      rfl
    · intro ac w hR hd hk K hK
      have e17 : ac.tmps[17]?.getD undef = (.pointer (some ⟨g, 7, none⟩) : Value) := slot ((hd 8 _ 17 rfl rfl rfl).val rfl)
      have x7 := stay hR c7
      refine yes (want_g rfl rfl ((hd 3 _ 12 rfl rfl rfl).val rfl)) ?_
      have hv := hid (hK (.int .i64 j.s.nodes) w (PrV.is rfl rfl) (Below.refl _ _))
      go_simp
      refine kq hv.out ?_
      rfl
    · intro ac w hR hd hk K hK
      have e15 : ac.tmps[15]?.getD undef = (.int .i64 (C : Int) : Value) := slot ((hd 6 _ 15 rfl rfl rfl).val rfl)
      have e18 : ac.tmps[18]?.getD undef = (.int .i64 j.s.nodes : Value) := slot ((hd 9 _ 18 rfl rfl rfl).val rfl)
      have x1 := hcn.out
      refine yes (want_g rfl rfl ((hd 3 _ 12 rfl rfl rfl).val rfl)) ?_
      have hv := hid (hK (.bool false) w (PrV.is rfl rfl) (Below.refl _ _))
      go_simp
      refine kq hv.out ?_
      simp [x1]
    · exact fun ac w hR hd hk K hK => yes (want_n rfl) (wp_pick _ _ _ rfl false _ ((hd 3 _ 12 rfl rfl rfl).val rfl) ((hd 10 _ 19 rfl rfl rfl).val rfl) (hK _ w (PrV.is rfl rfl) (Below.refl _ _)))
    · exact fun ac w hR hd hk K hK => yes (want_n rfl) (wp_mv _ rfl _ ((hd 11 _ 20 rfl rfl rfl).val rfl) (hK _ w (PrV.is rfl rfl) (Below.refl _ _)))
    · exact fun ac w hR hd hk K hK => yes (want_g rfl rfl ((hd 12 _ 21 rfl rfl rfl).val rfl)) (wp_mv _ rfl _ (get_keep (hk 2 (no_dst (by kernel_rfl))) rfl) (hK _ w (PrV.is rfl rfl) (Below.refl _ _)))
    · intro ac w hR hd hk K hK
      have e3 : ac.tmps[3]?.getD undef = (.pointer (some ⟨g, 0, none⟩) : Value) := slot (get_keep (hk 3 (no_dst (by kernel_rfl))) rfl)
      refine yes (want_g rfl rfl ((hd 12 _ 21 rfl rfl rfl).val rfl)) ?_
      have hv := hid (hK (.pointer (some ⟨g, 12, none⟩)) w (PrV.is rfl rfl) (Below.refl _ _))
      go_simp
      refine kq hv.out ?_
      rfl
    · intro ac w hR hd hk K hK
      have e23 : ac.tmps[23]?.getD undef = (.pointer (some ⟨g, 12, none⟩) : Value) := slot ((hd 14 _ 23 rfl rfl rfl).val rfl)
      have x12 := stay hR c12
      refine yes (want_g rfl rfl ((hd 12 _ 21 rfl rfl rfl).val rfl)) ?_
      have hv := hid (hK (.int .i64 j.sub) w (PrV.is rfl rfl) (Below.refl _ _))
      go_simp
      refine kq hv.out ?_
      rfl
    · intro ac w hR hd hk K hK
      have e22 : ac.tmps[22]?.getD undef = (.int .i64 now : Value) := slot ((hd 13 _ 22 rfl rfl rfl).val rfl)
      have e24 : ac.tmps[24]?.getD undef = (.int .i64 j.sub : Value) := slot ((hd 15 _ 24 rfl rfl rfl).val rfl)
      have x1 := hlo.out
      refine yes (want_g rfl rfl ((hd 12 _ 21 rfl rfl rfl).val rfl)) ?_
      have hv := hid (hK (.bool false) w (PrV.is rfl rfl) (Below.refl _ _))
      go_simp
      refine kq hv.out ?_
      simp [x1]
    · exact fun ac w hR hd hk K hK => yes (want_n rfl) (wp_pick _ _ _ rfl false _ ((hd 12 _ 21 rfl rfl rfl).val rfl) ((hd 16 _ 25 rfl rfl rfl).val rfl) (hK _ w (PrV.is rfl rfl) (Below.refl _ _)))
    · exact fun ac w hR hd hk K hK => yes (want_n rfl) (wp_mv _ rfl _ ((hd 17 _ 26 rfl rfl rfl).val rfl) (hK _ w (PrV.is rfl rfl) (Below.refl _ _)))
    · exact fun ac w hR hd hk K hK => yes (want_g rfl rfl ((hd 18 _ 27 rfl rfl rfl).val rfl)) (wp_mv _ rfl _ (get_keep (hk 2 (no_dst (by kernel_rfl))) rfl) (hK _ w (PrV.is rfl rfl) (Below.refl _ _)))
    · intro ac w hR hd hk K hK
      have e28 : ac.tmps[28]?.getD undef = (.int .i64 now : Value) := slot ((hd 19 _ 28 rfl rfl rfl).val rfl)
      have x1 := hhi.out
      refine yes (want_g rfl rfl ((hd 18 _ 27 rfl rfl rfl).val rfl)) ?_
      have hv := hid (hK (.bool false) w (PrV.is rfl rfl) (Below.refl _ _))
      go_simp
      refine kq hv.out ?_
      simp [x1]
    · exact fun ac w hR hd hk K hK => yes (want_n rfl) (wp_pick _ _ _ rfl false _ ((hd 18 _ 27 rfl rfl rfl).val rfl) ((hd 20 _ 29 rfl rfl rfl).val rfl) (hK _ w (PrV.is rfl rfl) (Below.refl _ _)))
  · intro a w5 hdf hsz hkp hval hRw
    obtain ⟨f, hf⟩ : ∃ f, f = fun d => a.tmps.getD d undef := ⟨_, rfl⟩
    have h30 : f 30 = .bool false := by rw [hf]; exact (hval 21 _ 30 rfl rfl).val rfl
    have hfa := act_filled hdf hsz hkp
    rw [← hf] at hfa
    rw [hfa]
    clear hdf hsz hkp hval hfa hf
    clear a
    simp only [fillAll, List.set_cons_zero, List.set_cons_succ, h30]
    clear h30
    have x11 := stay hRw c11
    have hs5 := hRw.size
    have hlt5 : g < w5.heap.size := by omega
    by_cases e1 : j.st = 1
    · have d1 : (j.st != 1) = false := by simpa using e1
      replace e1 := hid e1
      have q0 : w5.heap[g]? = some (.cells (jc j).toArray 29 (0, 0)) := by rw [hRw.block _ (by omega)]; exact r0.out
      have q1 : w5.heap[g + 1]? = some (.cells zJ 29 (0, 0)) := by rw [hRw.block _ (by omega)]; exact r1.out
      replace q0 := hid q0
      replace q1 := hid q1
      go_wp2_with (refine wpList_load_row rfl 29 (.tmp 3) rfl g rfl 29 (jc j).toArray (0, 0) _ q0.out Try.underlying29 rfl (by kernel_rfl) ?_)
      refine (kA.out _ hRw).mono ?_
      rintro e w6 ⟨x, y, rfl, hy, ho, hb6⟩
      have D6 := hbT.out _ (bnext hRw hb6)
      have p1 : w6.heap[g + 1]? = some (.cells zJ 29 (0, 0)) := by rw [hb6.block _ (by omega)]; exact q1.out
      have hs6 := hb6.size
      have al1 := below_lit w6 (.cells (jc ((begun j on now).re x y)).toArray 29)
      have v8 := heap_alloc_new w6 (.cells (jc ((begun j on now).re x y)).toArray 29)
      have p1b : (w6.alloc (.cells (jc ((begun j on now).re x y)).toArray 29)).heap[g + 1]? = some (.cells zJ 29 (0, 0)) := by rw [al1.block _ (by omega)]; exact p1
      have v1 := setRow_heap (w6.alloc (.cells (jc ((begun j on now).re x y)).toArray 29)) (g + 1) _ (jc ((begun j on now).re x y)).toArray _ _ p1b
      have D7 := hbT.out _ (bnext (bnext hRw hb6) al1)
      have D8 := below_setRow (g := g + 1) D7 (by omega) (jc ((begun j on now).re x y)).toArray
      have ho2 := (ho.below al1)
      have K3 : Kp (fun k => k = g + 1) (w6.alloc (.cells (jc ((begun j on now).re x y)).toArray 29)) ((w6.alloc (.cells (jc ((begun j on now).re x y)).toArray 29)).setRow (g + 1) (jc ((begun j on now).re x y)).toArray) := kp_setRow (S := fun k => k = g + 1) (Kp.refl _ _) rfl _
      have o3 := owns_low (base' := g + 1 + 1) (owns_kp ho2 K3 (fun k hk h => by have := (World.ownsRow.lt ho2 k hk).1; omega)) (by omega)
      replace v8 := hid v8
      replace v1 := hid v1
      replace p1b := hid p1b
      replace o3 := hid o3
      replace ho := hid ho
      replace ho2 := hid ho2
      replace K3 := hid K3
      simp only [jc, Job.re, Spc.re]
      go_wp2_with (first
        | (refine wpList_store_row rfl 29 (.tmp 8) (.tmp 37) rfl w6.heap.size (jc (j.re x y)).toArray rfl rfl 29 _ (heap_alloc_new w6 _) (by kernel_rfl) rfl (jc_all _) ?_; rw [alloc_setRow]; simp only [jc, Job.re, Spc.re])
        | (refine wpList_load_row rfl 29 (.tmp 8) rfl w6.heap.size rfl 29 (jc ((begun j on now).re x y)).toArray (0, 0) _ v8.out Try.underlying29 rfl (by kernel_rfl) ?_)
        | (refine wpList_store_row rfl 29 (.tmp 6) (.tmp 43) rfl (g + 1) (jc ((begun j on now).re x y)).toArray rfl rfl 29 _ p1b.out (by kernel_rfl) rfl (jc_all _) ?_))
      (try simp only [Exit.inBlock, Exit.then])
      refine bodyPost_ret (results_cell_tmp rfl _ _ (g + 1) 29 (jc ((begun j on now).re x y)).toArray (0, 0) _ rfl v1.out Try.underlying29 (by kernel_rfl)) rfl ?_
      rw [hgg.out]
      exact ⟨.inl ⟨by rw [hE.out, if_pos e1.out], x, y, rfl, hy, o3.out⟩, D8⟩
    · have d1 : (j.st != 1) = true := by simpa using e1
      have hq : Hid (E = 180) := hid (by rw [hE.out, if_neg e1])
      replace e1 := hid e1
      have u1 : w5.heap[g + 1]? = some (.cells zJ 29 (0, 0)) := by rw [(hRw).block _ (by omega)]; exact r1.out
      have v1 := setRow_heap w5 (g + 1) _ zJ _ _ u1
      have DD := below_setRow (g := g + 1) (hbT.out _ (hRw)) (by omega) zJ
      replace u1 := hid u1
      replace v1 := hid v1
      go_wp2_with (refine wpList_store_row rfl 29 (.tmp 6) (.tmp 35) rfl (g + 1) zJ rfl rfl 29 _ u1.out (by kernel_rfl) rfl (jc_all job0) ?_)
      (try simp only [Exit.inBlock, Exit.then])
      refine bodyPost_ret (results_cell_tmp rfl _ _ (g + 1) 29 zJ (0, 0) _ rfl v1.out Try.underlying29 (by kernel_rfl)) rfl ?_
      rw [hgg.out]
      exact ⟨.inr ⟨by rw [hq.out]; decide, by rw [hq.out]; rfl⟩, DD⟩

theorem rbegin_any (j : Job) (on now : Int) (D : List Dp) (w : World) (h0 : 0 ≤ j.on) (h1 : j.on < 4294967296) (ho0 : 0 ≤ on) (ho1 : on < 4294967296) (hD : D.length = j.s.dn) (hl : j.s.dn * 16 ≤ 140737488355328) (hat : DAt w j.s.da D) :
    Calls Try.prog 8 #[.agg (jc j).toArray, .int .u32 on, .int .i64 now] w fun e w' => BT (w.heap.size + 1 + 1) (beginE j on now) (begun j on now) D e w' ∧ Below w.heap.size w w' := by
  have hE : beginE j on now = if rightB j = true ∧ ((Nd.cnt on.toNat : Nat) : Int) = j.s.nodes ∧ j.sub ≤ now ∧ now ≤ MT then (if j.st = 1 then 0 else 180) else 2 := rfl
  rw [hE]
  cases hr : rightB j with
  | false => rw [if_neg (fun h => by cases h.1)]; exact rbA j on now _ D w h0 h1 ho0 ho1 rfl hD hl hat hr _ rfl
  | true =>
    by_cases hcn : ((Nd.cnt on.toNat : Nat) : Int) = j.s.nodes
    · by_cases hlo : now < j.sub
      · rw [if_neg (fun h => by omega)]; exact rbC j on now _ D w h0 h1 ho0 ho1 rfl hD hl hat hr hcn hlo _ rfl
      · by_cases hhi : 1099511627776 < now
        · rw [if_neg (fun h => by simp only [MT] at h; omega)]; exact rbD j on now _ D w h0 h1 ho0 ho1 rfl hD hl hat hr hcn hlo hhi _ rfl
        · rw [if_pos ⟨rfl, hcn, by omega, by simp only [MT]; omega⟩]; exact rbE j on now _ D w h0 h1 ho0 ho1 rfl hD hl hat hr hcn hlo hhi _ rfl
    · rw [if_neg (fun h => hcn h.2.1)]; exact rbB j on now _ D w h0 h1 ho0 ho1 rfl hD hl hat hr hcn _ rfl

end Go.Proofs.Ytlhmlfinflodaaa
