/- JobEnds: its walk. -/
import Derived.Test.YtlhmlfinflodaaaJy
namespace Go.Proofs.Ytlhmlfinflodaaa
open Go.RowKit
set_option linter.unusedVariables false
set_option linter.unusedSimpArgs false

def pv4 (g b7 : Nat) (j JR : Job) (t1 : Tn) : List Value := [.agg (jc JR).toArray, .int .i64 (wrap64 (t1.now + j.s.lim)), .pointer (some ⟨g + 1, 3, none⟩), .int .i64 t1.now, .pointer (some ⟨g, 3, none⟩), .pointer (some ⟨g, 9, none⟩), .int .i64 j.s.lim, .int .i64 (wrap64 (t1.now + j.s.lim)), .bool false, .bool false, .pointer (some ⟨b7, 11, none⟩), .int .u8 2, .bool false, .bool false, .bool false, .pointer (some ⟨b7, 16, none⟩), .int .i64 0, .bool false, .bool false]
def pv9a (g b9 : Nat) (JF : Job) (X : Int) (t1 t2 : Tn) : List Value := [.agg (jc JF).toArray, .int .i64 t2.now, .pointer (some ⟨g + 1 + 1, 3, none⟩), .int .i64 t2.now, .bool true, .bool true, .pointer (some ⟨b9, 13, none⟩), .int .i64 t1.now, .pointer (some ⟨g + 1, 3, none⟩), .int .i64 t1.now, .bool true, .bool true, .bool true, .pointer (some ⟨b9, 16, none⟩), .int .i64 X, .bool false, .pointer (some ⟨b9, 11, none⟩), .int .u8 t2.st, .bool false, .bool true, .bool true, .bool true, .pointer (some ⟨b9, 11, none⟩), .int .u8 t2.st, .bool true, .bool true, .bool true, .bool true, .bool true, .bool true]
def pv9b (g b9 : Nat) (JF : Job) (X : Int) (t1 t2 : Tn) : List Value := [.agg (jc JF).toArray, .int .i64 t2.now, .pointer (some ⟨g + 1 + 1, 3, none⟩), .int .i64 t2.now, .bool true, .bool true, .pointer (some ⟨b9, 13, none⟩), .int .i64 t1.now, .pointer (some ⟨g + 1, 3, none⟩), .int .i64 t1.now, .bool true, .bool true, .bool true, .pointer (some ⟨b9, 16, none⟩), .int .i64 X, .bool true, .pointer (some ⟨b9, 11, none⟩), .int .u8 t2.st, .bool true, .bool true, .bool true, .bool true, .pointer (some ⟨b9, 11, none⟩), .int .u8 t2.st, .bool true, .bool true, .bool true, .bool true, .bool true, .bool true]

set_option maxRecDepth 100000 in
set_option maxHeartbeats 4000000 in
theorem ends_any (j : Job) (D : List Dp) (t1 t2 : Tn) (w : World) (h0 : 0 ≤ j.on) (h1 : j.on < 4294967296) (hD : D.length = j.s.dn) (hl : j.s.dn * 16 ≤ 140737488355328) (hat : DAt w j.s.da D) (ho0 : 0 ≤ t1.on) (ho1 : t1.on < 4294967296) :
    Calls Try.prog 5 #[.agg (jc j).toArray, .agg (tc t1).toArray, .agg (tc t2).toArray] w fun e w' => e = .returned (.bool true) ∧ Below w.heap.size w w' := by
  obtain ⟨W0, hW0⟩ : ∃ W0, W0 = ((w.alloc (.cells (jc j).toArray 29)).alloc (.cells (tc t1).toArray 31)).alloc (.cells (tc t2).toArray 31) := ⟨_, rfl⟩
  have b1 := below_lit w (.cells (jc j).toArray 29)
  have b2 := below_lit (w.alloc (.cells (jc j).toArray 29)) (.cells (tc t1).toArray 31)
  have b3 := below_lit ((w.alloc (.cells (jc j).toArray 29)).alloc (.cells (tc t1).toArray 31)) (.cells (tc t2).toArray 31)
  have hsz : W0.heap.size = w.heap.size + 1 + 1 + 1 := by rw [hW0, size_lit, size_lit, size_lit]
  have bl : Below w.heap.size w W0 := by rw [hW0]; exact bnext b1 (bnext b2 b3)
  have r0 : W0.heap[w.heap.size]? = some (.cells (jc j).toArray 29 (0, 0)) := by
    rw [hW0, b3.block _ (by rw [size_lit, size_lit]; omega), b2.block _ (by rw [size_lit]; omega)]; exact heap_alloc_new w _
  have r1 : W0.heap[w.heap.size + 1]? = some (.cells (tc t1).toArray 31 (0, 0)) := by
    rw [hW0, b3.block _ (by rw [size_lit, size_lit]; omega)]
    have := heap_alloc_new (w.alloc (.cells (jc j).toArray 29)) (.cells (tc t1).toArray 31)
    rw [size_lit] at this; exact this
  have r2 : W0.heap[w.heap.size + 1 + 1]? = some (.cells (tc t2).toArray 31 (0, 0)) := by
    rw [hW0]
    have := heap_alloc_new ((w.alloc (.cells (jc j).toArray 29)).alloc (.cells (tc t1).toArray 31)) (.cells (tc t2).toArray 31)
    rw [size_lit, size_lit] at this; exact this
  clear b1 b2 b3
  have c9 := row_cell r0 9 (.int .i64 j.s.lim) rfl
  have u0 := row_cell r1 0 (.int .u32 t1.on) rfl
  have u3 := row_cell r1 3 (.int .i64 t1.now) rfl
  have y1 := row_cell r2 1 (.int .u8 t2.st) rfl
  have y2 := row_cell r2 2 (.int .i64 t2.x) rfl
  have y3 := row_cell r2 3 (.int .i64 t2.now) rfl
  have kB := begin_any j t1.on t1.now D W0 h0 h1 ho0 ho1 hD hl (hat.below bl)
  have r0w := r0
  have u0w := u0
  have u3w := u3
  rw [hW0] at r0w u0w u3w
  replace r0w := hid r0w
  replace r0 := hid r0
  replace r1 := hid r1
  replace r2 := hid r2
  replace hat := hid hat
  replace hD := hid hD
  have hbT := hid (fun w' (h : Below W0.heap.size W0 w') => bnext bl h)
  go_enter Try.func5, Try.ntmps5
  go_wp2_with (refine wpList_load_row rfl 29 (.tmp 3) rfl w.heap.size rfl 29 (jc j).toArray (0, 0) _ r0w.out Try.underlying29 rfl (by kernel_rfl) ?_)
  rw [← hW0]
  replace hW0 := hid hW0
  clear r0w u0w u3w
  refine kB.mono ?_
  rintro e w1 ⟨hBT, hb1⟩
  have hs1 := hb1.size
  by_cases hE : beginE j t1.on t1.now = 0
  · obtain ⟨q1, q2, q3, q4, q5⟩ := begin_zero hE
    have hra := (right_is j).1 q1
    have hf1 := fit_one hra.2 q5
    have hbr := fun x y => begun_right hE x y
    rw [hE] at hBT
    obtain ⟨x1, z1, rfl, hy1, hown⟩ := hBT.ok
    obtain ⟨JR, hJR⟩ : ∃ J, J = (begun j t1.on t1.now).re x1 z1 := ⟨_, rfl⟩
    have hrr : rightB JR = true := by rw [hJR]; exact hbr _ _
    have hst : JR.st = 2 := by rw [hJR]; rfl
    have hbeg : JR.beg = t1.now := by rw [hJR]; rfl
    have hex : JR.exit = 0 := by rw [hJR]; exact hf1.2.2.2
    have hda : DAt w1 JR.s.da D := by rw [hJR]; exact hown.dat
    have hdn : JR.s.dn = j.s.dn := by rw [hJR]; rfl
    have hon : JR.on = t1.on := by rw [hJR]; rfl
    have hlim : JR.s.lim = j.s.lim := by rw [hJR]; rfl
    rw [← hJR]
    have kE := fun w => end_any JR w
    rw [show endP JR = wrap64 (t1.now + j.s.lim) by unfold endP; rw [if_pos hst, hbeg, hlim]] at kE
    have kO2 := fun w => over_any 2 w
    rw [show overB 2 = false from rfl] at kO2
    have al := below_lit w1 (.cells (jc JR).toArray 29)
    obtain ⟨W1, hW1⟩ : ∃ W1, W1 = w1.alloc (.cells (jc JR).toArray 29) := ⟨_, rfl⟩
    have rowb7 : W1.heap[w1.heap.size]? = some (.cells (jc JR).toArray 29 (0, 0)) := by rw [hW1]; exact heap_alloc_new w1 _
    rw [← hW1] at al
    have hs2 : W1.heap.size = w1.heap.size + 1 := by rw [hW1, size_lit]
    have z11 := row_cell rowb7 11 (.int .u8 2) (by rw [← hst]; rfl)
    have z16 := row_cell rowb7 16 (.int .i64 0) (by rw [← hex]; rfl)
    have B1 := bnext hb1 al
    replace c9 := stay B1 c9
    replace u3 := stay B1 u3
    replace y1 := stay B1 y1
    replace y2 := stay B1 y2
    replace y3 := stay B1 y3
    have hda1 := hid (hda.below al)
    have lb7 : w1.heap.size < W1.heap.size := by omega
    have lg : w.heap.size < W1.heap.size := by omega
    have hbT1 := hid (fun w' (h : Below W1.heap.size W1 w') => hbT.out _ (bnext B1 h))
    clear hown hda kB hBT hbr al B1 hb1 u0
    replace hJR := hid hJR
    replace hst := hid hst
    replace hbeg := hid hbeg
    replace hex := hid hex
    replace hdn := hid hdn
    replace hon := hid hon
    replace hlim := hid hlim
    replace hE := hid hE
    replace hrr := hid hrr
    replace rowb7 := hid rowb7
    replace hW1 := hid hW1
    replace hf1 := hid hf1
    replace hra := hid hra
    replace q1 := hid q1
    replace q2 := hid q2
    replace q5 := hid q5
    go_wp2_with (refine wpList_store_row rfl 29 (.tmp 7) (.tmp 18) rfl w1.heap.size (jc JR).toArray rfl rfl 29 _ (heap_alloc_new w1 _) (by kernel_rfl) rfl (jc_all _) ?_; rw [alloc_setRow])
    rw [← hW1.out]
    generalize hb7e : w1.heap.size = b7 at *
    generalize hge : w.heap.size = g at *
    replace hb7e := hid hb7e
    replace hge := hid hge
    refine wp_region_drawn (Rel := fun w w' => Below w.heap.size w w') (Pr := PrV (pv4 g b7 j JR t1) [] (fun _ _ _ => True)) (by kernel_rfl) (by kernel_rfl) (drew_below _) bel_tr (PrV.mono (fun _ _ _ _ _ _ => trivial)) ?_ ?_
    · refine ⟨?_, ?_, ?_, ?_, ?_, ?_, ?_, ?_, ?_, ?_, ?_, ?_, ?_, ?_, ?_, ?_, ?_, ?_, ?_, trivial⟩
      · intro ac w hR hd hk K hK
        exact yes (want_n rfl) (wp_load_row 29 _ rfl b7 ((get_keep (hk 7 (no_dst (by kernel_rfl))) rfl)) 29 (jc JR).toArray (0, 0) _ (by rw [hR.block _ lb7]; exact rowb7.out) Try.underlying29 rfl (by kernel_rfl) (hK _ w (PrV.is rfl rfl) (Below.refl _ _)))
      · exact fun ac w hR hd hk K hK => yes (want_n rfl) (wp_callv 16 _ _ rfl _ Try.func16 rfl rfl _ (args1 ((hd 0 _ 23 rfl rfl rfl).val rfl)) (kE w) (by rintro e w' ⟨rfl, hb⟩; exact ⟨_, rfl, hK _ w' (PrV.is rfl rfl) (hb)⟩))
      · intro ac w hR hd hk K hK
        have e4 : ac.tmps[4]?.getD undef = (.pointer (some ⟨g + 1, 0, none⟩) : Value) := slot (get_keep (hk 4 (no_dst (by kernel_rfl))) rfl)
        refine yes (want_n rfl) ?_
        have hv := hid (hK (.pointer (some ⟨g + 1, 3, none⟩)) w (PrV.is rfl rfl) (Below.refl _ _))
        go_simp
        refine kq hv.out ?_
        rfl
      · intro ac w hR hd hk K hK
        have e25 : ac.tmps[25]?.getD undef = (.pointer (some ⟨g + 1, 3, none⟩) : Value) := slot ((hd 2 _ 25 rfl rfl rfl).val rfl)
        have x1 := stay hR u3
        refine yes (want_n rfl) ?_
        have hv := hid (hK (.int .i64 t1.now) w (PrV.is rfl rfl) (Below.refl _ _))
        go_simp
        refine kq hv.out ?_
        rfl
      · intro ac w hR hd hk K hK
        have e3 : ac.tmps[3]?.getD undef = (.pointer (some ⟨g, 0, none⟩) : Value) := slot (get_keep (hk 3 (no_dst (by kernel_rfl))) rfl)
        refine yes (want_n rfl) ?_
        have hv := hid (hK (.pointer (some ⟨g, 3, none⟩)) w (PrV.is rfl rfl) (Below.refl _ _))
        go_simp
        refine kq hv.out ?_
        rfl
      · intro ac w hR hd hk K hK
        have e27 : ac.tmps[27]?.getD undef = (.pointer (some ⟨g, 3, none⟩) : Value) := slot ((hd 4 _ 27 rfl rfl rfl).val rfl)
        refine yes (want_n rfl) ?_
        have hv := hid (hK (.pointer (some ⟨g, 9, none⟩)) w (PrV.is rfl rfl) (Below.refl _ _))
        go_simp
        refine kq hv.out ?_
        rfl
      · intro ac w hR hd hk K hK
        have e28 : ac.tmps[28]?.getD undef = (.pointer (some ⟨g, 9, none⟩) : Value) := slot ((hd 5 _ 28 rfl rfl rfl).val rfl)
        have x1 := stay hR c9
        refine yes (want_n rfl) ?_
        have hv := hid (hK (.int .i64 j.s.lim) w (PrV.is rfl rfl) (Below.refl _ _))
        go_simp
        refine kq hv.out ?_
        rfl
      · intro ac w hR hd hk K hK
        have e26 : ac.tmps[26]?.getD undef = (.int .i64 t1.now : Value) := slot ((hd 3 _ 26 rfl rfl rfl).val rfl)
        have e29 : ac.tmps[29]?.getD undef = (.int .i64 j.s.lim : Value) := slot ((hd 6 _ 29 rfl rfl rfl).val rfl)
        refine yes (want_n rfl) ?_
        have hv := hid (hK (.int .i64 (wrap64 (t1.now + j.s.lim))) w (PrV.is rfl rfl) (Below.refl _ _))
        go_simp
        refine kq hv.out ?_
        first | rfl | (rw [IntKind.wrap_i64]; rfl) | (simp [IntKind.wrap_i64, wrap64])
      · intro ac w hR hd hk K hK
        have e24 : ac.tmps[24]?.getD undef = (.int .i64 (wrap64 (t1.now + j.s.lim)) : Value) := slot ((hd 1 _ 24 rfl rfl rfl).val rfl)
        have e30 : ac.tmps[30]?.getD undef = (.int .i64 (wrap64 (t1.now + j.s.lim)) : Value) := slot ((hd 7 _ 30 rfl rfl rfl).val rfl)
        refine yes (want_n rfl) ?_
        have hv := hid (hK (.bool false) w (PrV.is rfl rfl) (Below.refl _ _))
        go_simp
        refine kq hv.out ?_
        simp
      · exact fun ac w hR hd hk K hK => yes (want_n rfl) (wp_mv _ rfl _ ((hd 8 _ 31 rfl rfl rfl).val rfl) (hK _ w (PrV.is rfl rfl) (Below.refl _ _)))
      · intro ac w hR hd hk K hK
        have e7 : ac.tmps[7]?.getD undef = (.pointer (some ⟨b7, 0, none⟩) : Value) := slot (get_keep (hk 7 (no_dst (by kernel_rfl))) rfl)
        refine yes (want_g rfl rfl ((hd 9 _ 32 rfl rfl rfl).val rfl)) ?_
        have hv := hid (hK (.pointer (some ⟨b7, 11, none⟩)) w (PrV.is rfl rfl) (Below.refl _ _))
        go_simp
        refine kq hv.out ?_
        rfl
      · intro ac w hR hd hk K hK
        have e33 : ac.tmps[33]?.getD undef = (.pointer (some ⟨b7, 11, none⟩) : Value) := slot ((hd 10 _ 33 rfl rfl rfl).val rfl)
        have x1 := stay hR z11
        refine yes (want_g rfl rfl ((hd 9 _ 32 rfl rfl rfl).val rfl)) ?_
        have hv := hid (hK (.int .u8 2) w (PrV.is rfl rfl) (Below.refl _ _))
        go_simp
        refine kq hv.out ?_
        rfl
      · exact fun ac w hR hd hk K hK => yes (want_g rfl rfl ((hd 9 _ 32 rfl rfl rfl).val rfl)) (wp_callv 18 _ _ rfl _ Try.func18 rfl rfl _ (args1 ((hd 11 _ 34 rfl rfl rfl).val rfl)) (kO2 w) (by rintro e w' ⟨rfl, hb⟩; exact ⟨_, rfl, hK _ w' (PrV.is rfl rfl) (by subst hb; exact Below.refl _ _)⟩))
      · exact fun ac w hR hd hk K hK => yes (want_n rfl) (wp_pick _ _ _ rfl false _ ((hd 9 _ 32 rfl rfl rfl).val rfl) ((hd 12 _ 35 rfl rfl rfl).val rfl) (hK _ w (PrV.is rfl rfl) (Below.refl _ _)))
      · exact fun ac w hR hd hk K hK => yes (want_n rfl) (wp_mv _ rfl _ ((hd 13 _ 36 rfl rfl rfl).val rfl) (hK _ w (PrV.is rfl rfl) (Below.refl _ _)))
      · intro ac w hR hd hk K hK
        have e7 : ac.tmps[7]?.getD undef = (.pointer (some ⟨b7, 0, none⟩) : Value) := slot (get_keep (hk 7 (no_dst (by kernel_rfl))) rfl)
        refine yes (want_g rfl rfl ((hd 14 _ 37 rfl rfl rfl).val rfl)) ?_
        have hv := hid (hK (.pointer (some ⟨b7, 16, none⟩)) w (PrV.is rfl rfl) (Below.refl _ _))
        go_simp
        refine kq hv.out ?_
        rfl
      · intro ac w hR hd hk K hK
        have e38 : ac.tmps[38]?.getD undef = (.pointer (some ⟨b7, 16, none⟩) : Value) := slot ((hd 15 _ 38 rfl rfl rfl).val rfl)
        have x1 := stay hR z16
        refine yes (want_g rfl rfl ((hd 14 _ 37 rfl rfl rfl).val rfl)) ?_
        have hv := hid (hK (.int .i64 0) w (PrV.is rfl rfl) (Below.refl _ _))
        go_simp
        refine kq hv.out ?_
        rfl
      · intro ac w hR hd hk K hK
        have e39 : ac.tmps[39]?.getD undef = (.int .i64 0 : Value) := slot ((hd 16 _ 39 rfl rfl rfl).val rfl)
        refine yes (want_g rfl rfl ((hd 14 _ 37 rfl rfl rfl).val rfl)) ?_
        have hv := hid (hK (.bool false) w (PrV.is rfl rfl) (Below.refl _ _))
        go_simp
        refine kq hv.out ?_
        simp
      · exact fun ac w hR hd hk K hK => yes (want_n rfl) (wp_pick _ _ _ rfl false _ ((hd 14 _ 37 rfl rfl rfl).val rfl) ((hd 17 _ 40 rfl rfl rfl).val rfl) (hK _ w (PrV.is rfl rfl) (Below.refl _ _)))
    · intro a w2 hdf hsz hkp hval hRw
      obtain ⟨f, hf⟩ : ∃ f, f = fun d => a.tmps.getD d undef := ⟨_, rfl⟩
      have h41 : f 41 = .bool false := by rw [hf]; exact (hval 18 _ 41 rfl rfl).val rfl
      have hfa := act_filled hdf hsz hkp
      rw [← hf] at hfa
      rw [hfa]
      clear hdf hsz hkp hval hfa hf
      clear a
      simp only [fillAll, List.set_cons_zero, List.set_cons_succ, h41]
      clear h41
      have B2 := hRw
      have hs3 := hRw.size
      replace u3 := stay B2 u3
      replace y1 := stay B2 y1
      replace y2 := stay B2 y2
      replace y3 := stay B2 y3
      have row2 : w2.heap[b7]? = some (.cells (jc JR).toArray 29 (0, 0)) := by rw [hRw.block _ lb7]; exact rowb7.out
      replace row2 := hid row2
      have hlt1 := World.block_lt_of_cell? _ _ u3
      have hlt2 := World.block_lt_of_cell? _ _ y3
      have kF := finish_any JR t2.st t2.x t2.now D w2 (by rw [hon.out]; exact ho0) (by rw [hon.out]; exact ho1) (by rw [hdn.out]; exact hD.out) (by rw [hdn.out]; exact hl) (hda1.out.below hRw)
      go_wp2_with (refine wpList_load_row rfl 29 (.tmp 7) rfl b7 rfl 29 (jc JR).toArray (0, 0) _ row2.out Try.underlying29 rfl (by kernel_rfl) ?_)
      refine kF.mono ?_
      rintro e w3 ⟨hBT, hb3⟩
      have B3 := bnext B2 hb3
      have hs4 := B3.size
      clear kF
      by_cases hF : finE JR t2.st t2.now = 0
      · obtain ⟨p1, p2, p3, p4, p5⟩ := fin_zero hF
        rw [hF] at hBT
        obtain ⟨x2, z2, rfl, hy2, hown⟩ := hBT.ok
        obtain ⟨JF, hJF⟩ : ∃ J, J = (fini JR t2.st t2.x t2.now).re x2 z2 := ⟨_, rfl⟩
        have gst : JF.st = t2.st := by rw [hJF]; rfl
        have gbeg : JF.beg = t1.now := by rw [hJF, ← hbeg.out]; rfl
        have gex : JF.exit = exP t2.st t2.x := by rw [hJF]; rfl
        have gfin : JF.fin = t2.now := by rw [hJF]; rfl
        rw [← hJF]
        have kE9 := fun w => end_any JF w
        rw [show endP JF = t2.now by unfold endP; rw [gst, if_neg (by rw [over_iff] at p4; omega), if_pos p4, gfin]] at kE9
        have kO9 := fun w => over_any t2.st w
        rw [p4] at kO9
        have al := below_lit w3 (.cells (jc JF).toArray 29)
        obtain ⟨W3, hW3⟩ : ∃ W1, W1 = w3.alloc (.cells (jc JF).toArray 29) := ⟨_, rfl⟩
        have rowb9 : W3.heap[w3.heap.size]? = some (.cells (jc JF).toArray 29 (0, 0)) := by rw [hW3]; exact heap_alloc_new w3 _
        rw [← hW3] at al
        have hs5 : W3.heap.size = w3.heap.size + 1 := by rw [hW3, size_lit]
        have f11 := row_cell rowb9 11 (.int .u8 t2.st) (by rw [← gst]; rfl)
        have f13 := row_cell rowb9 13 (.int .i64 t1.now) (by rw [← gbeg]; rfl)
        have f16 := row_cell rowb9 16 (.int .i64 (exP t2.st t2.x)) (by rw [← gex]; rfl)
        have B4 := bnext hb3 al
        replace u3 := stay B4 u3
        replace y3 := stay B4 y3
        have lb9 : w3.heap.size < W3.heap.size := by omega
        have hbT3 := hid (fun w' (h : Below W3.heap.size W3 w') => hbT1.out _ (bnext (bnext B2 B4) h))
        have hXY : (t2.st = 4 ∧ ¬ exP t2.st t2.x = 0) ∨ (¬ t2.st = 4 ∧ exP t2.st t2.x = 0) := by
          unfold exP
          by_cases h4 : t2.st = 4
          · rw [if_pos h4]
            refine .inl ⟨h4, ?_⟩
            split <;> omega
          · rw [if_neg h4]; exact .inr ⟨h4, rfl⟩
        generalize exP t2.st t2.x = X at *
        clear hown hBT al B4 hb3 B3 B2 hlt1 hlt2 y1 y2
        replace hJF := hid hJF
        replace gst := hid gst
        replace gbeg := hid gbeg
        replace gex := hid gex
        replace gfin := hid gfin
        replace hF := hid hF
        replace rowb9 := hid rowb9
        replace hW3 := hid hW3
        replace p4 := hid p4
        replace p5 := hid p5
        go_wp2_with (refine wpList_store_row rfl 29 (.tmp 9) (.tmp 51) rfl w3.heap.size (jc JF).toArray rfl rfl 29 _ (heap_alloc_new w3 _) (by kernel_rfl) rfl (jc_all _) ?_; rw [alloc_setRow])
        rw [← hW3.out]
        generalize hb9e : w3.heap.size = b9 at *
        replace hb9e := hid hb9e
        rcases hXY with ⟨hY, hX⟩ | ⟨hY, hX⟩
        · replace hX := hid hX
          replace hY := hid hY
          refine wp_region_drawn (Rel := fun w w' => Below w.heap.size w w') (Pr := PrV (pv9a g b9 JF X t1 t2) [] (fun _ _ _ => True)) (by kernel_rfl) (by kernel_rfl) (drew_below _) bel_tr (PrV.mono (fun _ _ _ _ _ _ => trivial)) ?_ ?_
          · refine ⟨?_, ?_, ?_, ?_, ?_, ?_, ?_, ?_, ?_, ?_, ?_, ?_, ?_, ?_, ?_, ?_, ?_, ?_, ?_, ?_, ?_, ?_, ?_, ?_, ?_, ?_, ?_, ?_, ?_, ?_, trivial⟩
            · intro ac w hR hd hk K hK
              exact yes (want_n rfl) (wp_load_row 29 _ rfl b9 ((get_keep (hk 9 (no_dst (by kernel_rfl))) rfl)) 29 (jc JF).toArray (0, 0) _ (by rw [hR.block _ lb9]; exact rowb9.out) Try.underlying29 rfl (by kernel_rfl) (hK _ w (PrV.is rfl rfl) (Below.refl _ _)))
            · exact fun ac w hR hd hk K hK => yes (want_n rfl) (wp_callv 16 _ _ rfl _ Try.func16 rfl rfl _ (args1 ((hd 0 _ 79 rfl rfl rfl).val rfl)) (kE9 w) (by rintro e w' ⟨rfl, hb⟩; exact ⟨_, rfl, hK _ w' (PrV.is rfl rfl) (hb)⟩))
            · intro ac w hR hd hk K hK
              have e5 : ac.tmps[5]?.getD undef = (.pointer (some ⟨g + 1 + 1, 0, none⟩) : Value) := slot (get_keep (hk 5 (no_dst (by kernel_rfl))) rfl)
              refine yes (want_n rfl) ?_
              have hv := hid (hK (.pointer (some ⟨g + 1 + 1, 3, none⟩)) w (PrV.is rfl rfl) (Below.refl _ _))
              go_simp
              refine kq hv.out ?_
              rfl
            · intro ac w hR hd hk K hK
              have e81 : ac.tmps[81]?.getD undef = (.pointer (some ⟨g + 1 + 1, 3, none⟩) : Value) := slot ((hd 2 _ 81 rfl rfl rfl).val rfl)
              have x1 := stay hR y3
              refine yes (want_n rfl) ?_
              have hv := hid (hK (.int .i64 t2.now) w (PrV.is rfl rfl) (Below.refl _ _))
              go_simp
              refine kq hv.out ?_
              rfl
            · intro ac w hR hd hk K hK
              have e80 : ac.tmps[80]?.getD undef = (.int .i64 t2.now : Value) := slot ((hd 1 _ 80 rfl rfl rfl).val rfl)
              have e82 : ac.tmps[82]?.getD undef = (.int .i64 t2.now : Value) := slot ((hd 3 _ 82 rfl rfl rfl).val rfl)
              refine yes (want_n rfl) ?_
              have hv := hid (hK (.bool true) w (PrV.is rfl rfl) (Below.refl _ _))
              go_simp
              refine kq hv.out ?_
              simp
            · exact fun ac w hR hd hk K hK => yes (want_n rfl) (wp_mv _ rfl _ ((hd 4 _ 83 rfl rfl rfl).val rfl) (hK _ w (PrV.is rfl rfl) (Below.refl _ _)))
            · intro ac w hR hd hk K hK
              have e9 : ac.tmps[9]?.getD undef = (.pointer (some ⟨b9, 0, none⟩) : Value) := slot (get_keep (hk 9 (no_dst (by kernel_rfl))) rfl)
              refine yes (want_g rfl rfl ((hd 5 _ 84 rfl rfl rfl).val rfl)) ?_
              have hv := hid (hK (.pointer (some ⟨b9, 13, none⟩)) w (PrV.is rfl rfl) (Below.refl _ _))
              go_simp
              refine kq hv.out ?_
              rfl
            · intro ac w hR hd hk K hK
              have e85 : ac.tmps[85]?.getD undef = (.pointer (some ⟨b9, 13, none⟩) : Value) := slot ((hd 6 _ 85 rfl rfl rfl).val rfl)
              have x1 := stay hR f13
              refine yes (want_g rfl rfl ((hd 5 _ 84 rfl rfl rfl).val rfl)) ?_
              have hv := hid (hK (.int .i64 t1.now) w (PrV.is rfl rfl) (Below.refl _ _))
              go_simp
              refine kq hv.out ?_
              rfl
            · intro ac w hR hd hk K hK
              have e4 : ac.tmps[4]?.getD undef = (.pointer (some ⟨g + 1, 0, none⟩) : Value) := slot (get_keep (hk 4 (no_dst (by kernel_rfl))) rfl)
              refine yes (want_g rfl rfl ((hd 5 _ 84 rfl rfl rfl).val rfl)) ?_
              have hv := hid (hK (.pointer (some ⟨g + 1, 3, none⟩)) w (PrV.is rfl rfl) (Below.refl _ _))
              go_simp
              refine kq hv.out ?_
              rfl
            · intro ac w hR hd hk K hK
              have e87 : ac.tmps[87]?.getD undef = (.pointer (some ⟨g + 1, 3, none⟩) : Value) := slot ((hd 8 _ 87 rfl rfl rfl).val rfl)
              have x1 := stay hR u3
              refine yes (want_g rfl rfl ((hd 5 _ 84 rfl rfl rfl).val rfl)) ?_
              have hv := hid (hK (.int .i64 t1.now) w (PrV.is rfl rfl) (Below.refl _ _))
              go_simp
              refine kq hv.out ?_
              rfl
            · intro ac w hR hd hk K hK
              have e86 : ac.tmps[86]?.getD undef = (.int .i64 t1.now : Value) := slot ((hd 7 _ 86 rfl rfl rfl).val rfl)
              have e88 : ac.tmps[88]?.getD undef = (.int .i64 t1.now : Value) := slot ((hd 9 _ 88 rfl rfl rfl).val rfl)
              refine yes (want_g rfl rfl ((hd 5 _ 84 rfl rfl rfl).val rfl)) ?_
              have hv := hid (hK (.bool true) w (PrV.is rfl rfl) (Below.refl _ _))
              go_simp
              refine kq hv.out ?_
              simp
            · exact fun ac w hR hd hk K hK => yes (want_n rfl) (wp_pick _ _ _ rfl true _ ((hd 5 _ 84 rfl rfl rfl).val rfl) ((hd 10 _ 89 rfl rfl rfl).val rfl) (hK _ w (PrV.is rfl rfl) (Below.refl _ _)))
            · exact fun ac w hR hd hk K hK => yes (want_n rfl) (wp_mv _ rfl _ ((hd 11 _ 90 rfl rfl rfl).val rfl) (hK _ w (PrV.is rfl rfl) (Below.refl _ _)))
            · intro ac w hR hd hk K hK
              have e9 : ac.tmps[9]?.getD undef = (.pointer (some ⟨b9, 0, none⟩) : Value) := slot (get_keep (hk 9 (no_dst (by kernel_rfl))) rfl)
              refine yes (want_g rfl rfl ((hd 12 _ 91 rfl rfl rfl).val rfl)) ?_
              have hv := hid (hK (.pointer (some ⟨b9, 16, none⟩)) w (PrV.is rfl rfl) (Below.refl _ _))
              go_simp
              refine kq hv.out ?_
              rfl
            · intro ac w hR hd hk K hK
              have e92 : ac.tmps[92]?.getD undef = (.pointer (some ⟨b9, 16, none⟩) : Value) := slot ((hd 13 _ 92 rfl rfl rfl).val rfl)
              have x1 := stay hR f16
              refine yes (want_g rfl rfl ((hd 12 _ 91 rfl rfl rfl).val rfl)) ?_
              have hv := hid (hK (.int .i64 X) w (PrV.is rfl rfl) (Below.refl _ _))
              go_simp
              refine kq hv.out ?_
              rfl
            · intro ac w hR hd hk K hK
              have e93 : ac.tmps[93]?.getD undef = (.int .i64 X : Value) := slot ((hd 14 _ 93 rfl rfl rfl).val rfl)
              have x1 := hX.out
              refine yes (want_g rfl rfl ((hd 12 _ 91 rfl rfl rfl).val rfl)) ?_
              have hv := hid (hK (.bool false) w (PrV.is rfl rfl) (Below.refl _ _))
              go_simp
              refine kq hv.out ?_
              simp [x1]
            · intro ac w hR hd hk K hK
              have e9 : ac.tmps[9]?.getD undef = (.pointer (some ⟨b9, 0, none⟩) : Value) := slot (get_keep (hk 9 (no_dst (by kernel_rfl))) rfl)
              refine yes (want_g rfl rfl ((hd 12 _ 91 rfl rfl rfl).val rfl)) ?_
              have hv := hid (hK (.pointer (some ⟨b9, 11, none⟩)) w (PrV.is rfl rfl) (Below.refl _ _))
              go_simp
              refine kq hv.out ?_
              rfl
            · intro ac w hR hd hk K hK
              have e95 : ac.tmps[95]?.getD undef = (.pointer (some ⟨b9, 11, none⟩) : Value) := slot ((hd 16 _ 95 rfl rfl rfl).val rfl)
              have x1 := stay hR f11
              refine yes (want_g rfl rfl ((hd 12 _ 91 rfl rfl rfl).val rfl)) ?_
              have hv := hid (hK (.int .u8 t2.st) w (PrV.is rfl rfl) (Below.refl _ _))
              go_simp
              refine kq hv.out ?_
              rfl
            · intro ac w hR hd hk K hK
              have e96 : ac.tmps[96]?.getD undef = (.int .u8 t2.st : Value) := slot ((hd 17 _ 96 rfl rfl rfl).val rfl)
              have x1 := hY.out
              refine yes (want_g rfl rfl ((hd 12 _ 91 rfl rfl rfl).val rfl)) ?_
              have hv := hid (hK (.bool false) w (PrV.is rfl rfl) (Below.refl _ _))
              go_simp
              refine kq hv.out ?_
              simp [x1]
            · intro ac w hR hd hk K hK
              have e94 : ac.tmps[94]?.getD undef = (.bool false : Value) := slot ((hd 15 _ 94 rfl rfl rfl).val rfl)
              have e97 : ac.tmps[97]?.getD undef = (.bool false : Value) := slot ((hd 18 _ 97 rfl rfl rfl).val rfl)
              refine yes (want_g rfl rfl ((hd 12 _ 91 rfl rfl rfl).val rfl)) ?_
              have hv := hid (hK (.bool true) w (PrV.is rfl rfl) (Below.refl _ _))
              go_simp
              refine kq hv.out ?_
              simp
            · exact fun ac w hR hd hk K hK => yes (want_n rfl) (wp_pick _ _ _ rfl true _ ((hd 12 _ 91 rfl rfl rfl).val rfl) ((hd 19 _ 98 rfl rfl rfl).val rfl) (hK _ w (PrV.is rfl rfl) (Below.refl _ _)))
            · exact fun ac w hR hd hk K hK => yes (want_n rfl) (wp_mv _ rfl _ ((hd 20 _ 99 rfl rfl rfl).val rfl) (hK _ w (PrV.is rfl rfl) (Below.refl _ _)))
            · intro ac w hR hd hk K hK
              have e9 : ac.tmps[9]?.getD undef = (.pointer (some ⟨b9, 0, none⟩) : Value) := slot (get_keep (hk 9 (no_dst (by kernel_rfl))) rfl)
              refine yes (want_g rfl rfl ((hd 21 _ 100 rfl rfl rfl).val rfl)) ?_
              have hv := hid (hK (.pointer (some ⟨b9, 11, none⟩)) w (PrV.is rfl rfl) (Below.refl _ _))
              go_simp
              refine kq hv.out ?_
              rfl
            · intro ac w hR hd hk K hK
              have e101 : ac.tmps[101]?.getD undef = (.pointer (some ⟨b9, 11, none⟩) : Value) := slot ((hd 22 _ 101 rfl rfl rfl).val rfl)
              have x1 := stay hR f11
              refine yes (want_g rfl rfl ((hd 21 _ 100 rfl rfl rfl).val rfl)) ?_
              have hv := hid (hK (.int .u8 t2.st) w (PrV.is rfl rfl) (Below.refl _ _))
              go_simp
              refine kq hv.out ?_
              rfl
            · exact fun ac w hR hd hk K hK => yes (want_g rfl rfl ((hd 21 _ 100 rfl rfl rfl).val rfl)) (wp_callv 18 _ _ rfl _ Try.func18 rfl rfl _ (args1 ((hd 23 _ 102 rfl rfl rfl).val rfl)) (kO9 w) (by rintro e w' ⟨rfl, hb⟩; exact ⟨_, rfl, hK _ w' (PrV.is rfl rfl) (by subst hb; exact Below.refl _ _)⟩))
            · exact fun ac w hR hd hk K hK => yes (want_n rfl) (wp_pick _ _ _ rfl true _ ((hd 21 _ 100 rfl rfl rfl).val rfl) ((hd 24 _ 103 rfl rfl rfl).val rfl) (hK _ w (PrV.is rfl rfl) (Below.refl _ _)))
            · exact fun ac w hR hd hk K hK => yes (want_n rfl) (wp_mv _ rfl _ ((hd 25 _ 104 rfl rfl rfl).val rfl) (hK _ w (PrV.is rfl rfl) (Below.refl _ _)))
            · exact fun ac w hR hd hk K hK => yes (want_g rfl rfl ((hd 26 _ 105 rfl rfl rfl).val rfl)) (wp_callv 22 _ _ rfl _ Try.func22 rfl rfl _ (args0) (awake_any w) (by rintro e w' ⟨rfl, hb⟩; exact ⟨_, rfl, hK _ w' (PrV.is rfl rfl) (hb)⟩))
            · exact fun ac w hR hd hk K hK => yes (want_n rfl) (wp_pick _ _ _ rfl true _ ((hd 26 _ 105 rfl rfl rfl).val rfl) ((hd 27 _ 106 rfl rfl rfl).val rfl) (hK _ w (PrV.is rfl rfl) (Below.refl _ _)))
            · exact fun ac w hR hd hk K hK => yes (want_n rfl) (wp_as _ rfl _ ((hd 28 _ 107 rfl rfl rfl).val rfl) (hK _ w (PrV.is rfl rfl) (Below.refl _ _)))
          · intro a w5 hdf hsz hkp hval hRw9
            obtain ⟨f, hf⟩ : ∃ f, f = fun d => a.tmps.getD d undef := ⟨_, rfl⟩
            have h6 : f 6 = .bool true := by rw [hf]; exact (hval 29 _ 6 rfl rfl).val rfl
            have hfa := act_filled hdf hsz hkp
            rw [← hf] at hfa
            rw [hfa]
            clear hdf hsz hkp hval hfa hf
            clear a
            simp only [fillAll, List.set_cons_zero, List.set_cons_succ, h6]
            clear h6
            go_wp2
            go_ret
            rw [hge.out]
            exact ⟨rfl, hbT3.out _ hRw9⟩
        · replace hX := hid hX
          replace hY := hid hY
          refine wp_region_drawn (Rel := fun w w' => Below w.heap.size w w') (Pr := PrV (pv9b g b9 JF X t1 t2) [] (fun _ _ _ => True)) (by kernel_rfl) (by kernel_rfl) (drew_below _) bel_tr (PrV.mono (fun _ _ _ _ _ _ => trivial)) ?_ ?_
          · refine ⟨?_, ?_, ?_, ?_, ?_, ?_, ?_, ?_, ?_, ?_, ?_, ?_, ?_, ?_, ?_, ?_, ?_, ?_, ?_, ?_, ?_, ?_, ?_, ?_, ?_, ?_, ?_, ?_, ?_, ?_, trivial⟩
            · intro ac w hR hd hk K hK
              exact yes (want_n rfl) (wp_load_row 29 _ rfl b9 ((get_keep (hk 9 (no_dst (by kernel_rfl))) rfl)) 29 (jc JF).toArray (0, 0) _ (by rw [hR.block _ lb9]; exact rowb9.out) Try.underlying29 rfl (by kernel_rfl) (hK _ w (PrV.is rfl rfl) (Below.refl _ _)))
            · exact fun ac w hR hd hk K hK => yes (want_n rfl) (wp_callv 16 _ _ rfl _ Try.func16 rfl rfl _ (args1 ((hd 0 _ 79 rfl rfl rfl).val rfl)) (kE9 w) (by rintro e w' ⟨rfl, hb⟩; exact ⟨_, rfl, hK _ w' (PrV.is rfl rfl) (hb)⟩))
            · intro ac w hR hd hk K hK
              have e5 : ac.tmps[5]?.getD undef = (.pointer (some ⟨g + 1 + 1, 0, none⟩) : Value) := slot (get_keep (hk 5 (no_dst (by kernel_rfl))) rfl)
              refine yes (want_n rfl) ?_
              have hv := hid (hK (.pointer (some ⟨g + 1 + 1, 3, none⟩)) w (PrV.is rfl rfl) (Below.refl _ _))
              go_simp
              refine kq hv.out ?_
              rfl
            · intro ac w hR hd hk K hK
              have e81 : ac.tmps[81]?.getD undef = (.pointer (some ⟨g + 1 + 1, 3, none⟩) : Value) := slot ((hd 2 _ 81 rfl rfl rfl).val rfl)
              have x1 := stay hR y3
              refine yes (want_n rfl) ?_
              have hv := hid (hK (.int .i64 t2.now) w (PrV.is rfl rfl) (Below.refl _ _))
              go_simp
              refine kq hv.out ?_
              rfl
            · intro ac w hR hd hk K hK
              have e80 : ac.tmps[80]?.getD undef = (.int .i64 t2.now : Value) := slot ((hd 1 _ 80 rfl rfl rfl).val rfl)
              have e82 : ac.tmps[82]?.getD undef = (.int .i64 t2.now : Value) := slot ((hd 3 _ 82 rfl rfl rfl).val rfl)
              refine yes (want_n rfl) ?_
              have hv := hid (hK (.bool true) w (PrV.is rfl rfl) (Below.refl _ _))
              go_simp
              refine kq hv.out ?_
              simp
            · exact fun ac w hR hd hk K hK => yes (want_n rfl) (wp_mv _ rfl _ ((hd 4 _ 83 rfl rfl rfl).val rfl) (hK _ w (PrV.is rfl rfl) (Below.refl _ _)))
            · intro ac w hR hd hk K hK
              have e9 : ac.tmps[9]?.getD undef = (.pointer (some ⟨b9, 0, none⟩) : Value) := slot (get_keep (hk 9 (no_dst (by kernel_rfl))) rfl)
              refine yes (want_g rfl rfl ((hd 5 _ 84 rfl rfl rfl).val rfl)) ?_
              have hv := hid (hK (.pointer (some ⟨b9, 13, none⟩)) w (PrV.is rfl rfl) (Below.refl _ _))
              go_simp
              refine kq hv.out ?_
              rfl
            · intro ac w hR hd hk K hK
              have e85 : ac.tmps[85]?.getD undef = (.pointer (some ⟨b9, 13, none⟩) : Value) := slot ((hd 6 _ 85 rfl rfl rfl).val rfl)
              have x1 := stay hR f13
              refine yes (want_g rfl rfl ((hd 5 _ 84 rfl rfl rfl).val rfl)) ?_
              have hv := hid (hK (.int .i64 t1.now) w (PrV.is rfl rfl) (Below.refl _ _))
              go_simp
              refine kq hv.out ?_
              rfl
            · intro ac w hR hd hk K hK
              have e4 : ac.tmps[4]?.getD undef = (.pointer (some ⟨g + 1, 0, none⟩) : Value) := slot (get_keep (hk 4 (no_dst (by kernel_rfl))) rfl)
              refine yes (want_g rfl rfl ((hd 5 _ 84 rfl rfl rfl).val rfl)) ?_
              have hv := hid (hK (.pointer (some ⟨g + 1, 3, none⟩)) w (PrV.is rfl rfl) (Below.refl _ _))
              go_simp
              refine kq hv.out ?_
              rfl
            · intro ac w hR hd hk K hK
              have e87 : ac.tmps[87]?.getD undef = (.pointer (some ⟨g + 1, 3, none⟩) : Value) := slot ((hd 8 _ 87 rfl rfl rfl).val rfl)
              have x1 := stay hR u3
              refine yes (want_g rfl rfl ((hd 5 _ 84 rfl rfl rfl).val rfl)) ?_
              have hv := hid (hK (.int .i64 t1.now) w (PrV.is rfl rfl) (Below.refl _ _))
              go_simp
              refine kq hv.out ?_
              rfl
            · intro ac w hR hd hk K hK
              have e86 : ac.tmps[86]?.getD undef = (.int .i64 t1.now : Value) := slot ((hd 7 _ 86 rfl rfl rfl).val rfl)
              have e88 : ac.tmps[88]?.getD undef = (.int .i64 t1.now : Value) := slot ((hd 9 _ 88 rfl rfl rfl).val rfl)
              refine yes (want_g rfl rfl ((hd 5 _ 84 rfl rfl rfl).val rfl)) ?_
              have hv := hid (hK (.bool true) w (PrV.is rfl rfl) (Below.refl _ _))
              go_simp
              refine kq hv.out ?_
              simp
            · exact fun ac w hR hd hk K hK => yes (want_n rfl) (wp_pick _ _ _ rfl true _ ((hd 5 _ 84 rfl rfl rfl).val rfl) ((hd 10 _ 89 rfl rfl rfl).val rfl) (hK _ w (PrV.is rfl rfl) (Below.refl _ _)))
            · exact fun ac w hR hd hk K hK => yes (want_n rfl) (wp_mv _ rfl _ ((hd 11 _ 90 rfl rfl rfl).val rfl) (hK _ w (PrV.is rfl rfl) (Below.refl _ _)))
            · intro ac w hR hd hk K hK
              have e9 : ac.tmps[9]?.getD undef = (.pointer (some ⟨b9, 0, none⟩) : Value) := slot (get_keep (hk 9 (no_dst (by kernel_rfl))) rfl)
              refine yes (want_g rfl rfl ((hd 12 _ 91 rfl rfl rfl).val rfl)) ?_
              have hv := hid (hK (.pointer (some ⟨b9, 16, none⟩)) w (PrV.is rfl rfl) (Below.refl _ _))
              go_simp
              refine kq hv.out ?_
              rfl
            · intro ac w hR hd hk K hK
              have e92 : ac.tmps[92]?.getD undef = (.pointer (some ⟨b9, 16, none⟩) : Value) := slot ((hd 13 _ 92 rfl rfl rfl).val rfl)
              have x1 := stay hR f16
              refine yes (want_g rfl rfl ((hd 12 _ 91 rfl rfl rfl).val rfl)) ?_
              have hv := hid (hK (.int .i64 X) w (PrV.is rfl rfl) (Below.refl _ _))
              go_simp
              refine kq hv.out ?_
              rfl
            · intro ac w hR hd hk K hK
              have e93 : ac.tmps[93]?.getD undef = (.int .i64 X : Value) := slot ((hd 14 _ 93 rfl rfl rfl).val rfl)
              have x1 := hX.out
              refine yes (want_g rfl rfl ((hd 12 _ 91 rfl rfl rfl).val rfl)) ?_
              have hv := hid (hK (.bool true) w (PrV.is rfl rfl) (Below.refl _ _))
              go_simp
              refine kq hv.out ?_
              simp [x1]
            · intro ac w hR hd hk K hK
              have e9 : ac.tmps[9]?.getD undef = (.pointer (some ⟨b9, 0, none⟩) : Value) := slot (get_keep (hk 9 (no_dst (by kernel_rfl))) rfl)
              refine yes (want_g rfl rfl ((hd 12 _ 91 rfl rfl rfl).val rfl)) ?_
              have hv := hid (hK (.pointer (some ⟨b9, 11, none⟩)) w (PrV.is rfl rfl) (Below.refl _ _))
              go_simp
              refine kq hv.out ?_
              rfl
            · intro ac w hR hd hk K hK
              have e95 : ac.tmps[95]?.getD undef = (.pointer (some ⟨b9, 11, none⟩) : Value) := slot ((hd 16 _ 95 rfl rfl rfl).val rfl)
              have x1 := stay hR f11
              refine yes (want_g rfl rfl ((hd 12 _ 91 rfl rfl rfl).val rfl)) ?_
              have hv := hid (hK (.int .u8 t2.st) w (PrV.is rfl rfl) (Below.refl _ _))
              go_simp
              refine kq hv.out ?_
              rfl
            · intro ac w hR hd hk K hK
              have e96 : ac.tmps[96]?.getD undef = (.int .u8 t2.st : Value) := slot ((hd 17 _ 96 rfl rfl rfl).val rfl)
              have x1 := hY.out
              refine yes (want_g rfl rfl ((hd 12 _ 91 rfl rfl rfl).val rfl)) ?_
              have hv := hid (hK (.bool true) w (PrV.is rfl rfl) (Below.refl _ _))
              go_simp
              refine kq hv.out ?_
              simp [x1]
            · intro ac w hR hd hk K hK
              have e94 : ac.tmps[94]?.getD undef = (.bool true : Value) := slot ((hd 15 _ 94 rfl rfl rfl).val rfl)
              have e97 : ac.tmps[97]?.getD undef = (.bool true : Value) := slot ((hd 18 _ 97 rfl rfl rfl).val rfl)
              refine yes (want_g rfl rfl ((hd 12 _ 91 rfl rfl rfl).val rfl)) ?_
              have hv := hid (hK (.bool true) w (PrV.is rfl rfl) (Below.refl _ _))
              go_simp
              refine kq hv.out ?_
              simp
            · exact fun ac w hR hd hk K hK => yes (want_n rfl) (wp_pick _ _ _ rfl true _ ((hd 12 _ 91 rfl rfl rfl).val rfl) ((hd 19 _ 98 rfl rfl rfl).val rfl) (hK _ w (PrV.is rfl rfl) (Below.refl _ _)))
            · exact fun ac w hR hd hk K hK => yes (want_n rfl) (wp_mv _ rfl _ ((hd 20 _ 99 rfl rfl rfl).val rfl) (hK _ w (PrV.is rfl rfl) (Below.refl _ _)))
            · intro ac w hR hd hk K hK
              have e9 : ac.tmps[9]?.getD undef = (.pointer (some ⟨b9, 0, none⟩) : Value) := slot (get_keep (hk 9 (no_dst (by kernel_rfl))) rfl)
              refine yes (want_g rfl rfl ((hd 21 _ 100 rfl rfl rfl).val rfl)) ?_
              have hv := hid (hK (.pointer (some ⟨b9, 11, none⟩)) w (PrV.is rfl rfl) (Below.refl _ _))
              go_simp
              refine kq hv.out ?_
              rfl
            · intro ac w hR hd hk K hK
              have e101 : ac.tmps[101]?.getD undef = (.pointer (some ⟨b9, 11, none⟩) : Value) := slot ((hd 22 _ 101 rfl rfl rfl).val rfl)
              have x1 := stay hR f11
              refine yes (want_g rfl rfl ((hd 21 _ 100 rfl rfl rfl).val rfl)) ?_
              have hv := hid (hK (.int .u8 t2.st) w (PrV.is rfl rfl) (Below.refl _ _))
              go_simp
              refine kq hv.out ?_
              rfl
            · exact fun ac w hR hd hk K hK => yes (want_g rfl rfl ((hd 21 _ 100 rfl rfl rfl).val rfl)) (wp_callv 18 _ _ rfl _ Try.func18 rfl rfl _ (args1 ((hd 23 _ 102 rfl rfl rfl).val rfl)) (kO9 w) (by rintro e w' ⟨rfl, hb⟩; exact ⟨_, rfl, hK _ w' (PrV.is rfl rfl) (by subst hb; exact Below.refl _ _)⟩))
            · exact fun ac w hR hd hk K hK => yes (want_n rfl) (wp_pick _ _ _ rfl true _ ((hd 21 _ 100 rfl rfl rfl).val rfl) ((hd 24 _ 103 rfl rfl rfl).val rfl) (hK _ w (PrV.is rfl rfl) (Below.refl _ _)))
            · exact fun ac w hR hd hk K hK => yes (want_n rfl) (wp_mv _ rfl _ ((hd 25 _ 104 rfl rfl rfl).val rfl) (hK _ w (PrV.is rfl rfl) (Below.refl _ _)))
            · exact fun ac w hR hd hk K hK => yes (want_g rfl rfl ((hd 26 _ 105 rfl rfl rfl).val rfl)) (wp_callv 22 _ _ rfl _ Try.func22 rfl rfl _ (args0) (awake_any w) (by rintro e w' ⟨rfl, hb⟩; exact ⟨_, rfl, hK _ w' (PrV.is rfl rfl) (hb)⟩))
            · exact fun ac w hR hd hk K hK => yes (want_n rfl) (wp_pick _ _ _ rfl true _ ((hd 26 _ 105 rfl rfl rfl).val rfl) ((hd 27 _ 106 rfl rfl rfl).val rfl) (hK _ w (PrV.is rfl rfl) (Below.refl _ _)))
            · exact fun ac w hR hd hk K hK => yes (want_n rfl) (wp_as _ rfl _ ((hd 28 _ 107 rfl rfl rfl).val rfl) (hK _ w (PrV.is rfl rfl) (Below.refl _ _)))
          · intro a w5 hdf hsz hkp hval hRw9
            obtain ⟨f, hf⟩ : ∃ f, f = fun d => a.tmps.getD d undef := ⟨_, rfl⟩
            have h6 : f 6 = .bool true := by rw [hf]; exact (hval 29 _ 6 rfl rfl).val rfl
            have hfa := act_filled hdf hsz hkp
            rw [← hf] at hfa
            rw [hfa]
            clear hdf hsz hkp hval hfa hf
            clear a
            simp only [fillAll, List.set_cons_zero, List.set_cons_succ, h6]
            clear h6
            go_wp2
            go_ret
            rw [hge.out]
            exact ⟨rfl, hbT3.out _ hRw9⟩
      · have hE2 : overB t2.st = false ∨ t2.st = 8 ∨ t2.now < t1.now ∨ 1099511627776 < t2.now := by
          by_cases k1 : overB t2.st = true
          · by_cases k2 : t2.now < t1.now
            · exact .inr (.inr (.inl k2))
            · by_cases k3 : 1099511627776 < t2.now
              · exact .inr (.inr (.inr k3))
              · refine .inr (.inl ?_)
                have ho : ord3 (sinceP JR) t2.now MT = true := by
                  unfold ord3 sinceP
                  rw [if_pos hst.out, hbeg.out]
                  simp only [Bool.and_eq_true, decide_eq_true_eq, MT]
                  omega
                unfold finE at hF
                rw [if_pos ⟨hrr.out, ho⟩, hst.out] at hF
                have k4 := (over_iff _).1 k1
                by_cases k5 : folB 2 t2.st = true
                · rw [if_pos ⟨k1, k5⟩] at hF; exact absurd rfl hF
                · rw [fol_iff] at k5; omega
          · exact .inl (by simpa using k1)
        obtain rfl := hBT.no hF
        have dF : (finE JR t2.st t2.now != 0) = true := by simpa using hF
        have kO := fun w => over_any t2.st w
        have al := below_lit w3 (.cells (jc job0).toArray 29)
        replace u3 := stay (bnext hb3 al) u3
        replace y1 := stay (bnext hb3 al) y1
        replace y3 := stay (bnext hb3 al) y3
        have hlt1 := World.block_lt_of_cell? _ _ u3
        have hlt2 := World.block_lt_of_cell? _ _ y3
        have B4 := bnext B3 al
        generalize finE JR t2.st t2.now = E2 at *
        clear hBT al hb3
        replace hF := hid hF
        rcases hE2 with k1 | k1
        · rw [k1] at kO
          go_wp2_with (refine wpList_store_row rfl 29 (.tmp 9) (.tmp 51) rfl w3.heap.size (jc job0).toArray rfl rfl 29 _ (heap_alloc_new w3 _) (by kernel_rfl) rfl (jc_all _) ?_; rw [alloc_setRow])
          refine (kO _).mono ?_
          rintro e w4 ⟨rfl, rfl⟩
          go_wp2_with fail
          refine (awake_any _).mono ?_
          rintro e w5 ⟨rfl, hb5⟩
          go_wp2
          go_ret
          rw [hge.out]
          exact ⟨rfl, hbT1.out _ (bnext B4 hb5)⟩
        · cases hO : overB t2.st with
          | false =>
            rw [hO] at kO
            go_wp2_with (refine wpList_store_row rfl 29 (.tmp 9) (.tmp 51) rfl w3.heap.size (jc job0).toArray rfl rfl 29 _ (heap_alloc_new w3 _) (by kernel_rfl) rfl (jc_all _) ?_; rw [alloc_setRow])
            refine (kO _).mono ?_
            rintro e w4 ⟨rfl, rfl⟩
            go_wp2_with fail
            refine (awake_any _).mono ?_
            rintro e w5 ⟨rfl, hb5⟩
            go_wp2
            go_ret
            rw [hge.out]
            exact ⟨rfl, hbT1.out _ (bnext B4 hb5)⟩
          | true =>
            rw [hO] at kO
            replace hO := hid hO
            go_wp2_with (refine wpList_store_row rfl 29 (.tmp 9) (.tmp 51) rfl w3.heap.size (jc job0).toArray rfl rfl 29 _ (heap_alloc_new w3 _) (by kernel_rfl) rfl (jc_all _) ?_; rw [alloc_setRow])
            refine (kO _).mono ?_
            rintro e w4 ⟨rfl, rfl⟩
            go_wp2_with fail
            all_goals (first | (exfalso; simp only [beq_eq_false_iff_ne] at *; omega) | skip)
            all_goals
              refine (awake_any _).mono ?_
              rintro e w5 ⟨rfl, hb5⟩
              go_wp2
              go_ret
              rw [hge.out]
              exact ⟨ret_bool (by first | rfl | (simp only [Bool.or_eq_true, beq_iff_eq, decide_eq_true_eq]; omega)), hbT1.out _ (bnext B4 hb5)⟩
  · obtain rfl := hBT.no hE
    have dE : (beginE j t1.on t1.now != 0) = true := by simpa using hE
    have al := below_lit w1 (.cells (jc job0).toArray 29)
    have B4 := bnext hb1 al
    generalize beginE j t1.on t1.now = E1 at *
    clear hBT al hb1
    replace hE := hid hE
    go_wp2_with (refine wpList_store_row rfl 29 (.tmp 7) (.tmp 18) rfl w1.heap.size (jc job0).toArray rfl rfl 29 _ (heap_alloc_new w1 _) (by kernel_rfl) rfl (jc_all _) ?_; rw [alloc_setRow])
    refine (awake_any _).mono ?_
    rintro e w5 ⟨rfl, hb5⟩
    go_wp2
    go_ret
    exact ⟨rfl, hbT.out _ (bnext B4 hb5)⟩

end Go.Proofs.Ytlhmlfinflodaaa
