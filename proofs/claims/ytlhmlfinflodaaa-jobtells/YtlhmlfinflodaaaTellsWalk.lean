/- JobTells: its walk. -/
import Derived.Test.YtlhmlfinflodaaaTellsP
namespace Go.Proofs.Ytlhmlfinflodaaa
open Go.RowKit
set_option linter.unusedVariables false
set_option linter.unusedSimpArgs false

def pv8 (g b7 b8 b10 b12 b14 : Nat) (j CJ A B C F : Job) (t : Tn) (E1 E2 fi EE : Int) (ok R O : Bool) : List Value := [.int .i64 E1, .int .i64 E1, .bool false, .bool false, .int .i64 E2, .int .i64 E2, .bool false, .bool false, .bool false, .int .i64 fi, .int .i64 fi, .bool false, .bool false, .bool false, .bool ok, .bool ok, .bool false, .bool false, .bool false, .agg (jc A).toArray, .agg (jc B).toArray, .bool true, .bool false, .bool false, .bool false, .agg (jc C).toArray, .agg (jc F).toArray, .bool true, .bool false, .bool false, .bool false, .agg (jc CJ).toArray, .bool R, .agg (jc j).toArray, .bool R, .bool false, .bool false, .bool false, .agg (jc CJ).toArray, .int .i64 EE, .agg (jc j).toArray, .int .i64 EE, .bool false, .bool false, .bool false, .pointer (some ⟨g + 1, 1, none⟩), .int .u8 t.st, .bool O, .pointer (some ⟨g + 1, 1, none⟩), .int .u8 t.st, .bool O, .bool false, .bool false]
def pv19 (g b7 : Nat) (j CJ : Job) (t : Tn) : List Value := [.agg (jc CJ).toArray, .agg (jc j).toArray, .bool true, .bool true, .pointer (some ⟨g + 1, 2, none⟩), .int .i64 t.x, .pointer (some ⟨g, 3, none⟩), .agg (sc j.s).toArray, .pointer (some ⟨g + 1, 3, none⟩), .int .i64 t.now, undef, .pointer (some ⟨g + 1, 2, none⟩), .int .i64 t.x, .pointer (some ⟨g, 3, none⟩), .agg (sc j.s).toArray, .pointer (some ⟨g + 1, 3, none⟩), .int .i64 t.now, undef, .bool true, .bool true, .bool true, .bool true, .bool true, .bool true]

set_option maxRecDepth 100000 in
set_option maxHeartbeats 8000000 in
theorem tells_any (j : Job) (D : List Dp) (t : Tn) (a : Option Addr) (k c : Nat) (L : List Job) (w : World) (h0 : 0 ≤ j.on) (h1 : j.on < 4294967296) (hD : D.length = j.s.dn) (hl : j.s.dn * 16 ≤ 140737488355328) (hat : DAt w j.s.da D) (ho0 : 0 ≤ t.on) (ho1 : t.on < 4294967296) (hL : L.length = k) (hk : k ≤ 4611686018427387904) (hLat : JAt w a L) :
    Calls Try.prog 3 #[.agg (jc j).toArray, .agg (tc t).toArray, .slice a k c] w fun e w' => e = .returned (.bool true) ∧ Below w.heap.size w w' := by
  have hls : j.s.dn ≤ 4611686018427387904 := by omega
  obtain ⟨W0, hW0⟩ : ∃ W0, W0 = (w.alloc (.cells (jc j).toArray 29)).alloc (.cells (tc t).toArray 31) := ⟨_, rfl⟩
  have b1 := below_lit w (.cells (jc j).toArray 29)
  have b2 := below_lit (w.alloc (.cells (jc j).toArray 29)) (.cells (tc t).toArray 31)
  have hsz : W0.heap.size = w.heap.size + 1 + 1 := by rw [hW0, size_lit, size_lit]
  have bl : Below w.heap.size w W0 := by rw [hW0]; exact bnext b1 b2
  have r0 : W0.heap[w.heap.size]? = some (.cells (jc j).toArray 29 (0, 0)) := by
    rw [hW0, b2.block _ (by rw [size_lit]; omega)]; exact heap_alloc_new w _
  have r1 : W0.heap[w.heap.size + 1]? = some (.cells (tc t).toArray 31 (0, 0)) := by
    rw [hW0]
    have := heap_alloc_new (w.alloc (.cells (jc j).toArray 29)) (.cells (tc t).toArray 31)
    rw [size_lit] at this; exact this
  clear b1 b2
  have kC := copyjob j D W0 hD hl (hat.below bl)
  have r0w := r0
  rw [hW0] at r0w
  replace r0w := hid r0w
  replace hD := hid hD
  replace hat := hid hat
  replace hL := hid hL
  replace hLat := hid hLat
  replace r0 := hid r0
  replace r1 := hid r1
  go_enter Try.func3, Try.ntmps3
  go_wp2_with (refine wpList_load_row rfl 29 (.tmp 3) rfl w.heap.size rfl 29 (jc j).toArray (0, 0) _ r0w.out Try.underlying29 rfl (by kernel_rfl) ?_)
  rw [← hW0]
  replace hW0 := hid hW0
  clear r0w
  refine kC.mono ?_
  rintro e w1 ⟨x0, y0, rfl, hy0, ho, hb1⟩
  obtain ⟨CJ, hCJ⟩ : ∃ J, J = j.re x0 y0 := ⟨_, rfl⟩
  rw [← hCJ]
  have hCdn : CJ.s.dn = j.s.dn := by rw [hCJ]; rfl
  have hCon : CJ.on = j.on := by rw [hCJ]; rfl
  have al := below_lit w1 (.cells (jc CJ).toArray 29)
  obtain ⟨W1, hW1⟩ : ∃ W, W = w1.alloc (.cells (jc CJ).toArray 29) := ⟨_, rfl⟩
  have rowb7 : W1.heap[w1.heap.size]? = some (.cells (jc CJ).toArray 29 (0, 0)) := by rw [hW1]; exact heap_alloc_new w1 _
  rw [← hW1] at al
  have B1 := bnext hb1 al
  have rowg := row_keep r0.out B1
  have rowt := row_keep r1.out B1
  have datC : DAt W1 CJ.s.da D := by rw [hCJ]; exact (ho.below al).dat
  have bW1 := bnext bl B1
  have t0 := row_cell rowt 0 (.int .u32 t.on) rfl
  have t1 := row_cell rowt 1 (.int .u8 t.st) rfl
  have t2 := row_cell rowt 2 (.int .i64 t.x) rfl
  have t3 := row_cell rowt 3 (.int .i64 t.now) rfl
  have hfin := hid (fun w' (h : Below W1.heap.size W1 w') => bnext bW1 h)
  have hatJ := hid (hat.out.below bW1)
  have hLat1 := hid (hLat.out.below bW1)
  clear ho hb1 al B1 bW1 kC r0 r1 bl hsz hLat hat
  replace datC := hid datC
  replace hCJ := hid hCJ
  replace hCdn := hid hCdn
  replace hCon := hid hCon
  replace rowb7 := hid rowb7
  replace rowg := hid rowg
  replace rowt := hid rowt
  replace hW1 := hid hW1
  have kB := begin_any CJ t.on t.now D W1 (by rw [hCon.out]; exact h0) (by rw [hCon.out]; exact h1) ho0 ho1 (by rw [hCdn.out]; exact hD.out) (by rw [hCdn.out]; exact hl) datC.out
  go_wp2_with (first
    | (refine wpList_store_row rfl 29 (.tmp 7) (.tmp 24) rfl w1.heap.size (jc CJ).toArray rfl rfl 29 _ (heap_alloc_new w1 _) (by kernel_rfl) rfl (jc_all _) ?_; rw [alloc_setRow]; rw [← hW1.out])
    | (refine wpList_load_row rfl 29 (.tmp 7) rfl w1.heap.size rfl 29 (jc CJ).toArray (0, 0) _ rowb7.out Try.underlying29 rfl (by kernel_rfl) ?_))
  generalize hb7e : w1.heap.size = b7 at *
  obtain ⟨g, hge⟩ : ∃ g, g = w.heap.size := ⟨_, rfl⟩
  rw [← hge] at rowg rowt t0 t1 t2 t3
  rw [← hge]
  replace hb7e := hid hb7e
  replace hge := hid hge
  refine kB.mono ?_
  rintro e w2 ⟨hBT, hB2⟩
  have hbE : beginE CJ t.on t.now = beginE j t.on t.now := by rw [hCJ.out]; rfl
  rw [hbE] at hBT
  obtain ⟨A, rfl, hA⟩ := hBT.all
  replace hA : AT (W1.heap.size + 1 + 1) (beginE j t.on t.now) (begun j t.on t.now) D A w2 := by rw [hCJ.out] at hA; exact hA.of_re
  generalize hE1 : beginE j t.on t.now = E1 at *
  replace hE1 := hid hE1
  clear hBT kB hbE
  have al2 := below_lit w2 (.cells (jc A).toArray 29)
  obtain ⟨W2, hW2⟩ : ∃ W, W = w2.alloc (.cells (jc A).toArray 29) := ⟨_, rfl⟩
  have rowb8 : W2.heap[w2.heap.size]? = some (.cells (jc A).toArray 29 (0, 0)) := by rw [hW2]; exact heap_alloc_new w2 _
  rw [← hW2] at al2
  have hoffA : ∀ y, A.s.da = some y → y.block ≠ w2.heap.size := fun y hy => by
    obtain ⟨DA, _, h2, _⟩ := hA.own hD.out
    rw [hy] at h2
    have := (owns_blk h2).2
    omega
  have B2 := bnext hB2 al2
  have hA2 := hA.below al2
  have kD := rbegin_any j t.on t.now D W2 h0 h1 ho0 ho1 hD.out hl (hatJ.out.below B2)
  rw [hE1.out] at kD
  have u0 := stay B2 t0
  have u3 := stay B2 t3
  have rg := hid (row_keep rowg.out B2)
  replace hW2 := hid hW2
  replace rowb8 := hid rowb8
  replace hoffA := hid hoffA
  replace hA := hid hA
  replace hA2 := hid hA2
  clear al2
  go_wp2_with (first
    | (refine wpList_store_row rfl 29 (.tmp 8) (.tmp 32) rfl w2.heap.size (jc A).toArray rfl rfl 29 _ (heap_alloc_new w2 _) (by kernel_rfl) rfl (jc_all _) ?_; rw [alloc_setRow]; rw [← hW2.out])
    | (refine wpList_load_row rfl 29 (.tmp 3) rfl g rfl 29 (jc j).toArray (0, 0) _ rg.out Try.underlying29 rfl (by kernel_rfl) ?_))
  generalize hb8e : w2.heap.size = b8 at *
  replace hb8e := hid hb8e
  refine kD.mono ?_
  rintro e w3 ⟨hBT, hB3⟩
  obtain ⟨B, rfl, hBd⟩ := hBT.all
  clear hBT kD u0 u3 rg
  have al3 := below_lit w3 (.cells (jc B).toArray 29)
  obtain ⟨W3, hW3⟩ : ∃ W, W = w3.alloc (.cells (jc B).toArray 29) := ⟨_, rfl⟩
  have rowb10 : W3.heap[w3.heap.size]? = some (.cells (jc B).toArray 29 (0, 0)) := by rw [hW3]; exact heap_alloc_new w3 _
  rw [← hW3] at al3
  have hB23 := bnext hB3 al3
  have B3 := bnext B2 hB23
  have hBd3 := hBd.below al3
  have kE := finish_any CJ t.st t.x t.now D W3 (by rw [hCon.out]; exact h0) (by rw [hCon.out]; exact h1) (by rw [hCdn.out]; exact hD.out) (by rw [hCdn.out]; exact hl) (datC.out.below B3)
  have u1 := stay B3 t1
  have u2 := stay B3 t2
  have u3 := stay B3 t3
  have r7 := hid (row_keep rowb7.out B3)
  replace rowb8 := hid (row_keep rowb8.out hB23)
  replace hA2 := hid (hA2.out.below hB23)
  replace hW3 := hid hW3
  replace rowb10 := hid rowb10
  replace hBd := hid hBd
  replace hBd3 := hid hBd3
  clear al3 hB3
  go_wp2_with (first
    | (refine wpList_store_row rfl 29 (.tmp 10) (.tmp 41) rfl w3.heap.size (jc B).toArray rfl rfl 29 _ (heap_alloc_new w3 _) (by kernel_rfl) rfl (jc_all _) ?_; rw [alloc_setRow]; rw [← hW3.out])
    | (refine wpList_load_row rfl 29 (.tmp 7) rfl b7 rfl 29 (jc CJ).toArray (0, 0) _ r7.out Try.underlying29 rfl (by kernel_rfl) ?_))
  generalize hb10e : w3.heap.size = b10 at *
  replace hb10e := hid hb10e
  refine kE.mono ?_
  rintro e w4 ⟨hBT, hB4⟩
  have hfE : finE CJ t.st t.now = finE j t.st t.now := by rw [hCJ.out]; rfl
  rw [hfE] at hBT
  obtain ⟨C, rfl, hC⟩ := hBT.all
  replace hC : AT (W3.heap.size + 1 + 1) (finE j t.st t.now) (fini j t.st t.x t.now) D C w4 := by rw [hCJ.out] at hC; exact hC.of_re
  generalize hE2 : finE j t.st t.now = E2 at *
  replace hE2 := hid hE2
  clear hBT kE u1 u2 u3 r7 hfE
  have al4 := below_lit w4 (.cells (jc C).toArray 29)
  obtain ⟨W4, hW4⟩ : ∃ W, W = w4.alloc (.cells (jc C).toArray 29) := ⟨_, rfl⟩
  have rowb12 : W4.heap[w4.heap.size]? = some (.cells (jc C).toArray 29 (0, 0)) := by rw [hW4]; exact heap_alloc_new w4 _
  rw [← hW4] at al4
  have hB34 := bnext hB4 al4
  have B4 := bnext B3 hB34
  have hC4 := hC.below al4
  have kF := rfinish_any j t.st t.x t.now D W4 h0 h1 hD.out hl (hatJ.out.below B4)
  rw [hE2.out] at kF
  have u1 := stay B4 t1
  have u2 := stay B4 t2
  have u3 := stay B4 t3
  have rg := hid (row_keep rowg.out B4)
  replace rowb8 := hid (row_keep rowb8.out hB34)
  replace rowb10 := hid (row_keep rowb10.out hB34)
  replace hA2 := hid (hA2.out.below hB34)
  replace hBd3 := hid (hBd3.out.below hB34)
  replace hW4 := hid hW4
  replace rowb12 := hid rowb12
  replace hC := hid hC
  replace hC4 := hid hC4
  clear al4 hB4 hB23
  go_wp2_with (first
    | (refine wpList_store_row rfl 29 (.tmp 12) (.tmp 52) rfl w4.heap.size (jc C).toArray rfl rfl 29 _ (heap_alloc_new w4 _) (by kernel_rfl) rfl (jc_all _) ?_; rw [alloc_setRow]; rw [← hW4.out])
    | (refine wpList_load_row rfl 29 (.tmp 3) rfl g rfl 29 (jc j).toArray (0, 0) _ rg.out Try.underlying29 rfl (by kernel_rfl) ?_))
  generalize hb12e : w4.heap.size = b12 at *
  replace hb12e := hid hb12e
  refine kF.mono ?_
  rintro e w5 ⟨hBT, hB5⟩
  obtain ⟨F, rfl, hF⟩ := hBT.all
  clear hBT kF u1 u2 u3 rg
  have al5 := below_lit w5 (.cells (jc F).toArray 29)
  obtain ⟨W5, hW5⟩ : ∃ W, W = w5.alloc (.cells (jc F).toArray 29) := ⟨_, rfl⟩
  have rowb14 : W5.heap[w5.heap.size]? = some (.cells (jc F).toArray 29 (0, 0)) := by rw [hW5]; exact heap_alloc_new w5 _
  rw [← hW5] at al5
  have hB45 := bnext hB5 al5
  have B5 := bnext B4 hB45
  have hF5 := hF.below al5
  have kG := find_any a k c L j.id W5 hL.out hk (hLat1.out.below B5)
  have ug := row_cell (row_keep rowg.out B5) 0 (.int .i64 j.id) rfl
  replace rowb8 := hid (row_keep rowb8.out hB45)
  replace rowb10 := hid (row_keep rowb10.out hB45)
  replace rowb12 := hid (row_keep rowb12.out hB45)
  replace hA2 := hid (hA2.out.below hB45)
  replace hBd3 := hid (hBd3.out.below hB45)
  replace hC4 := hid (hC4.out.below hB45)
  replace hW5 := hid hW5
  replace rowb14 := hid rowb14
  replace hF := hid hF
  replace hF5 := hid hF5
  clear al5 hB5 hB34 hB45
  go_wp2_with (refine wpList_store_row rfl 29 (.tmp 14) (.tmp 63) rfl w5.heap.size (jc F).toArray rfl rfl 29 _ (heap_alloc_new w5 _) (by kernel_rfl) rfl (jc_all _) ?_; rw [alloc_setRow]; rw [← hW5.out])
  generalize hb14e : w5.heap.size = b14 at *
  replace hb14e := hid hb14e
  refine kG.mono ?_
  rintro e w6 ⟨⟨fi0, ok0, rfl, hFI⟩, hB6⟩
  replace hFI := hid hFI
  have B6 := bnext B5 hB6
  have kH := rfind_any a k c L j.id w6 hL.out hk (hLat1.out.below B6)
  replace ug := stay hB6 ug
  clear kG
  go_wp2_with fail
  refine kH.mono ?_
  rintro e w7 ⟨⟨fi, ok, rfl, hFI2⟩, hB7⟩
  obtain ⟨rfl, rfl⟩ := FI.uniq hFI.out hFI2
  have B7 := bnext B6 hB7
  have hB57 := bnext hB6 hB7
  clear kH ug hFI2
  replace rowb8 := hid (row_keep rowb8.out hB57)
  replace rowb10 := hid (row_keep rowb10.out hB57)
  replace rowb12 := hid (row_keep rowb12.out hB57)
  replace rowb14 := hid (row_keep rowb14.out hB57)
  have hA7 := hid (hA2.out.below hB57)
  have kAB := fun wx (hR : Below w7.heap.size w7 wx) => AT.same (hA2.out.below hB57) (hBd3.out.below hB57) hD.out hls hR hR
  have kCF := fun wx (hR : Below w7.heap.size w7 wx) => AT.same (hC4.out.below hB57) (hF5.out.below hB57) hD.out hls hR hR
  have kR1 := fun wx => right_any CJ wx (by rw [hCon.out]; exact h0) (by rw [hCon.out]; exact h1)
  have kR2 := fun wx => rright_any j wx h0 h1
  rw [show rightB CJ = rightB j by rw [hCJ.out]; rfl] at kR1
  have kE1 := fun wx => end_any CJ wx
  have kE2 := fun wx => rend_any j wx
  rw [show endP CJ = endP j by rw [hCJ.out]; rfl] at kE1
  have kO1 := fun wx => over_any t.st wx
  have kO2 := fun wx => rover_any t.st wx
  generalize rightB j = R at *
  generalize endP j = EE at *
  generalize overB t.st = O at *
  have T1 := hid t1
  have T2 := hid t2
  have T3 := hid t3
  replace t1 := stay B7 t1
  have rowb70 := rowb7
  have rowg0 := rowg
  replace rowb7 := hid (row_keep rowb7.out B7)
  replace rowg := hid (row_keep rowg.out B7)
  have ltt := World.block_lt_of_cell? _ _ t1
  clear hB57 hB6 hB7 B6 B5 B4 B3 t0 t2 t3
  replace kAB := hid kAB
  replace kCF := hid kCF
  replace kR1 := hid kR1
  replace kR2 := hid kR2
  replace kE1 := hid kE1
  replace kE2 := hid kE2
  go_wp2_with fail
  replace kAB := kAB.out
  replace kCF := kCF.out
  replace kR1 := kR1.out
  replace kR2 := kR2.out
  replace kE1 := kE1.out
  replace kE2 := kE2.out
  refine wp_region_drawn (Rel := fun w w' => Below w.heap.size w w') (Pr := PrV (pv8 g b7 b8 b10 b12 b14 j CJ A B C F t E1 E2 fi EE ok R O) [] (fun _ _ _ => True)) (by kernel_rfl) (by kernel_rfl) (drew_below _) bel_tr (PrV.mono (fun _ _ _ _ _ _ => trivial)) ?_ ?_
  · refine ⟨?_, ?_, ?_, ?_, ?_, ?_, ?_, ?_, ?_, ?_, ?_, ?_, ?_, ?_, ?_, ?_, ?_, ?_, ?_, ?_, ?_, ?_, ?_, ?_, ?_, ?_, ?_, ?_, ?_, ?_, ?_, ?_, ?_, ?_, ?_, ?_, ?_, ?_, ?_, ?_, ?_, ?_, ?_, ?_, ?_, ?_, ?_, ?_, ?_, ?_, ?_, ?_, ?_, trivial⟩
    · exact fun ac w hR hd hk K hK => yes (want_n rfl) (wp_mv _ rfl _ (get_keep (hk 9 (no_dst (by kernel_rfl))) rfl) (hK _ w (PrV.is rfl rfl) (Below.refl _ _)))
    · exact fun ac w hR hd hk K hK => yes (want_n rfl) (wp_mv _ rfl _ (get_keep (hk 11 (no_dst (by kernel_rfl))) rfl) (hK _ w (PrV.is rfl rfl) (Below.refl _ _)))
    · intro ac w hR hd hk K hK
      have e79 : ac.tmps[79]?.getD undef = (.int .i64 E1 : Value) := slot ((hd 0 _ 79 rfl rfl rfl).val rfl)
      have e80 : ac.tmps[80]?.getD undef = (.int .i64 E1 : Value) := slot ((hd 1 _ 80 rfl rfl rfl).val rfl)
      refine yes (want_n rfl) ?_
      have hv := hid (hK (.bool false) w (PrV.is rfl rfl) (Below.refl _ _))
      go_simp
      refine kq hv.out ?_
      simp
    · exact fun ac w hR hd hk K hK => yes (want_n rfl) (wp_mv _ rfl _ ((hd 2 _ 81 rfl rfl rfl).val rfl) (hK _ w (PrV.is rfl rfl) (Below.refl _ _)))
    · exact fun ac w hR hd hk K hK => yes (want_g rfl rfl ((hd 3 _ 82 rfl rfl rfl).val rfl)) (wp_mv _ rfl _ (get_keep (hk 13 (no_dst (by kernel_rfl))) rfl) (hK _ w (PrV.is rfl rfl) (Below.refl _ _)))
    · exact fun ac w hR hd hk K hK => yes (want_g rfl rfl ((hd 3 _ 82 rfl rfl rfl).val rfl)) (wp_mv _ rfl _ (get_keep (hk 15 (no_dst (by kernel_rfl))) rfl) (hK _ w (PrV.is rfl rfl) (Below.refl _ _)))
    · intro ac w hR hd hk K hK
      have e83 : ac.tmps[83]?.getD undef = (.int .i64 E2 : Value) := slot ((hd 4 _ 83 rfl rfl rfl).val rfl)
      have e84 : ac.tmps[84]?.getD undef = (.int .i64 E2 : Value) := slot ((hd 5 _ 84 rfl rfl rfl).val rfl)
      refine yes (want_g rfl rfl ((hd 3 _ 82 rfl rfl rfl).val rfl)) ?_
      have hv := hid (hK (.bool false) w (PrV.is rfl rfl) (Below.refl _ _))
      go_simp
      refine kq hv.out ?_
      simp
    · exact fun ac w hR hd hk K hK => yes (want_n rfl) (wp_pick _ _ _ rfl false _ ((hd 3 _ 82 rfl rfl rfl).val rfl) ((hd 6 _ 85 rfl rfl rfl).val rfl) (hK _ w (PrV.is rfl rfl) (Below.refl _ _)))
    · exact fun ac w hR hd hk K hK => yes (want_n rfl) (wp_mv _ rfl _ ((hd 7 _ 86 rfl rfl rfl).val rfl) (hK _ w (PrV.is rfl rfl) (Below.refl _ _)))
    · exact fun ac w hR hd hk K hK => yes (want_g rfl rfl ((hd 8 _ 87 rfl rfl rfl).val rfl)) (wp_mv _ rfl _ (get_keep (hk 16 (no_dst (by kernel_rfl))) rfl) (hK _ w (PrV.is rfl rfl) (Below.refl _ _)))
    · exact fun ac w hR hd hk K hK => yes (want_g rfl rfl ((hd 8 _ 87 rfl rfl rfl).val rfl)) (wp_mv _ rfl _ (get_keep (hk 18 (no_dst (by kernel_rfl))) rfl) (hK _ w (PrV.is rfl rfl) (Below.refl _ _)))
    · intro ac w hR hd hk K hK
      have e88 : ac.tmps[88]?.getD undef = (.int .i64 fi : Value) := slot ((hd 9 _ 88 rfl rfl rfl).val rfl)
      have e89 : ac.tmps[89]?.getD undef = (.int .i64 fi : Value) := slot ((hd 10 _ 89 rfl rfl rfl).val rfl)
      refine yes (want_g rfl rfl ((hd 8 _ 87 rfl rfl rfl).val rfl)) ?_
      have hv := hid (hK (.bool false) w (PrV.is rfl rfl) (Below.refl _ _))
      go_simp
      refine kq hv.out ?_
      simp
    · exact fun ac w hR hd hk K hK => yes (want_n rfl) (wp_pick _ _ _ rfl false _ ((hd 8 _ 87 rfl rfl rfl).val rfl) ((hd 11 _ 90 rfl rfl rfl).val rfl) (hK _ w (PrV.is rfl rfl) (Below.refl _ _)))
    · exact fun ac w hR hd hk K hK => yes (want_n rfl) (wp_mv _ rfl _ ((hd 12 _ 91 rfl rfl rfl).val rfl) (hK _ w (PrV.is rfl rfl) (Below.refl _ _)))
    · exact fun ac w hR hd hk K hK => yes (want_g rfl rfl ((hd 13 _ 92 rfl rfl rfl).val rfl)) (wp_mv _ rfl _ (get_keep (hk 17 (no_dst (by kernel_rfl))) rfl) (hK _ w (PrV.is rfl rfl) (Below.refl _ _)))
    · exact fun ac w hR hd hk K hK => yes (want_g rfl rfl ((hd 13 _ 92 rfl rfl rfl).val rfl)) (wp_mv _ rfl _ (get_keep (hk 19 (no_dst (by kernel_rfl))) rfl) (hK _ w (PrV.is rfl rfl) (Below.refl _ _)))
    · intro ac w hR hd hk K hK
      have e93 : ac.tmps[93]?.getD undef = (.bool ok : Value) := slot ((hd 14 _ 93 rfl rfl rfl).val rfl)
      have e94 : ac.tmps[94]?.getD undef = (.bool ok : Value) := slot ((hd 15 _ 94 rfl rfl rfl).val rfl)
      refine yes (want_g rfl rfl ((hd 13 _ 92 rfl rfl rfl).val rfl)) ?_
      have hv := hid (hK (.bool false) w (PrV.is rfl rfl) (Below.refl _ _))
      go_simp
      refine kq hv.out ?_
      simp
    · exact fun ac w hR hd hk K hK => yes (want_n rfl) (wp_pick _ _ _ rfl false _ ((hd 13 _ 92 rfl rfl rfl).val rfl) ((hd 16 _ 95 rfl rfl rfl).val rfl) (hK _ w (PrV.is rfl rfl) (Below.refl _ _)))
    · exact fun ac w hR hd hk K hK => yes (want_n rfl) (wp_mv _ rfl _ ((hd 17 _ 96 rfl rfl rfl).val rfl) (hK _ w (PrV.is rfl rfl) (Below.refl _ _)))
    · intro ac w hR hd hk K hK
      exact yes (want_g rfl rfl ((hd 18 _ 97 rfl rfl rfl).val rfl)) (wp_load_row 29 _ rfl b8 ((get_keep (hk 8 (no_dst (by kernel_rfl))) rfl)) 29 (jc A).toArray (0, 0) _ (row_keep rowb8.out hR) Try.underlying29 rfl (by kernel_rfl) (hK _ w (PrV.is rfl rfl) (Below.refl _ _)))
    · intro ac w hR hd hk K hK
      exact yes (want_g rfl rfl ((hd 18 _ 97 rfl rfl rfl).val rfl)) (wp_load_row 29 _ rfl b10 ((get_keep (hk 10 (no_dst (by kernel_rfl))) rfl)) 29 (jc B).toArray (0, 0) _ (row_keep rowb10.out hR) Try.underlying29 rfl (by kernel_rfl) (hK _ w (PrV.is rfl rfl) (Below.refl _ _)))
    · exact fun ac w hR hd hk K hK => yes (want_g rfl rfl ((hd 18 _ 97 rfl rfl rfl).val rfl)) (wp_callv 13 _ _ rfl _ Try.func13 rfl rfl _ (args2 ((hd 19 _ 98 rfl rfl rfl).val rfl) ((hd 20 _ 99 rfl rfl rfl).val rfl)) (kAB w hR) (by rintro e w' ⟨rfl, hb⟩; exact ⟨_, rfl, hK _ w' (PrV.is rfl rfl) (hb)⟩))
    · intro ac w hR hd hk K hK
      have e100 : ac.tmps[100]?.getD undef = (.bool true : Value) := slot ((hd 21 _ 100 rfl rfl rfl).val rfl)
      refine yes (want_g rfl rfl ((hd 18 _ 97 rfl rfl rfl).val rfl)) ?_
      have hv := hid (hK (.bool false) w (PrV.is rfl rfl) (Below.refl _ _))
      go_simp
      refine kq hv.out ?_
      rfl
    · exact fun ac w hR hd hk K hK => yes (want_n rfl) (wp_pick _ _ _ rfl false _ ((hd 18 _ 97 rfl rfl rfl).val rfl) ((hd 22 _ 101 rfl rfl rfl).val rfl) (hK _ w (PrV.is rfl rfl) (Below.refl _ _)))
    · exact fun ac w hR hd hk K hK => yes (want_n rfl) (wp_mv _ rfl _ ((hd 23 _ 102 rfl rfl rfl).val rfl) (hK _ w (PrV.is rfl rfl) (Below.refl _ _)))
    · intro ac w hR hd hk K hK
      exact yes (want_g rfl rfl ((hd 24 _ 103 rfl rfl rfl).val rfl)) (wp_load_row 29 _ rfl b12 ((get_keep (hk 12 (no_dst (by kernel_rfl))) rfl)) 29 (jc C).toArray (0, 0) _ (row_keep rowb12.out hR) Try.underlying29 rfl (by kernel_rfl) (hK _ w (PrV.is rfl rfl) (Below.refl _ _)))
    · intro ac w hR hd hk K hK
      exact yes (want_g rfl rfl ((hd 24 _ 103 rfl rfl rfl).val rfl)) (wp_load_row 29 _ rfl b14 ((get_keep (hk 14 (no_dst (by kernel_rfl))) rfl)) 29 (jc F).toArray (0, 0) _ (row_keep rowb14.out hR) Try.underlying29 rfl (by kernel_rfl) (hK _ w (PrV.is rfl rfl) (Below.refl _ _)))
    · exact fun ac w hR hd hk K hK => yes (want_g rfl rfl ((hd 24 _ 103 rfl rfl rfl).val rfl)) (wp_callv 13 _ _ rfl _ Try.func13 rfl rfl _ (args2 ((hd 25 _ 104 rfl rfl rfl).val rfl) ((hd 26 _ 105 rfl rfl rfl).val rfl)) (kCF w hR) (by rintro e w' ⟨rfl, hb⟩; exact ⟨_, rfl, hK _ w' (PrV.is rfl rfl) (hb)⟩))
    · intro ac w hR hd hk K hK
      have e106 : ac.tmps[106]?.getD undef = (.bool true : Value) := slot ((hd 27 _ 106 rfl rfl rfl).val rfl)
      refine yes (want_g rfl rfl ((hd 24 _ 103 rfl rfl rfl).val rfl)) ?_
      have hv := hid (hK (.bool false) w (PrV.is rfl rfl) (Below.refl _ _))
      go_simp
      refine kq hv.out ?_
      rfl
    · exact fun ac w hR hd hk K hK => yes (want_n rfl) (wp_pick _ _ _ rfl false _ ((hd 24 _ 103 rfl rfl rfl).val rfl) ((hd 28 _ 107 rfl rfl rfl).val rfl) (hK _ w (PrV.is rfl rfl) (Below.refl _ _)))
    · exact fun ac w hR hd hk K hK => yes (want_n rfl) (wp_mv _ rfl _ ((hd 29 _ 108 rfl rfl rfl).val rfl) (hK _ w (PrV.is rfl rfl) (Below.refl _ _)))
    · intro ac w hR hd hk K hK
      exact yes (want_g rfl rfl ((hd 30 _ 109 rfl rfl rfl).val rfl)) (wp_load_row 29 _ rfl b7 ((get_keep (hk 7 (no_dst (by kernel_rfl))) rfl)) 29 (jc CJ).toArray (0, 0) _ (row_keep rowb7.out hR) Try.underlying29 rfl (by kernel_rfl) (hK _ w (PrV.is rfl rfl) (Below.refl _ _)))
    · exact fun ac w hR hd hk K hK => yes (want_g rfl rfl ((hd 30 _ 109 rfl rfl rfl).val rfl)) (wp_callv 14 _ _ rfl _ Try.func14 rfl rfl _ (args1 ((hd 31 _ 110 rfl rfl rfl).val rfl)) (kR1 w) (by rintro e w' ⟨rfl, hb⟩; exact ⟨_, rfl, hK _ w' (PrV.is rfl rfl) (hb)⟩))
    · intro ac w hR hd hk K hK
      exact yes (want_g rfl rfl ((hd 30 _ 109 rfl rfl rfl).val rfl)) (wp_load_row 29 _ rfl g ((get_keep (hk 3 (no_dst (by kernel_rfl))) rfl)) 29 (jc j).toArray (0, 0) _ (row_keep rowg.out hR) Try.underlying29 rfl (by kernel_rfl) (hK _ w (PrV.is rfl rfl) (Below.refl _ _)))
    · exact fun ac w hR hd hk K hK => yes (want_g rfl rfl ((hd 30 _ 109 rfl rfl rfl).val rfl)) (wp_callv 15 _ _ rfl _ Try.func15 rfl rfl _ (args1 ((hd 33 _ 112 rfl rfl rfl).val rfl)) (kR2 w) (by rintro e w' ⟨rfl, hb⟩; exact ⟨_, rfl, hK _ w' (PrV.is rfl rfl) (hb)⟩))
    · intro ac w hR hd hk K hK
      have e111 : ac.tmps[111]?.getD undef = (.bool R : Value) := slot ((hd 32 _ 111 rfl rfl rfl).val rfl)
      have e113 : ac.tmps[113]?.getD undef = (.bool R : Value) := slot ((hd 34 _ 113 rfl rfl rfl).val rfl)
      refine yes (want_g rfl rfl ((hd 30 _ 109 rfl rfl rfl).val rfl)) ?_
      have hv := hid (hK (.bool false) w (PrV.is rfl rfl) (Below.refl _ _))
      go_simp
      refine kq hv.out ?_
      simp
    · exact fun ac w hR hd hk K hK => yes (want_n rfl) (wp_pick _ _ _ rfl false _ ((hd 30 _ 109 rfl rfl rfl).val rfl) ((hd 35 _ 114 rfl rfl rfl).val rfl) (hK _ w (PrV.is rfl rfl) (Below.refl _ _)))
    · exact fun ac w hR hd hk K hK => yes (want_n rfl) (wp_mv _ rfl _ ((hd 36 _ 115 rfl rfl rfl).val rfl) (hK _ w (PrV.is rfl rfl) (Below.refl _ _)))
    · intro ac w hR hd hk K hK
      exact yes (want_g rfl rfl ((hd 37 _ 116 rfl rfl rfl).val rfl)) (wp_load_row 29 _ rfl b7 ((get_keep (hk 7 (no_dst (by kernel_rfl))) rfl)) 29 (jc CJ).toArray (0, 0) _ (row_keep rowb7.out hR) Try.underlying29 rfl (by kernel_rfl) (hK _ w (PrV.is rfl rfl) (Below.refl _ _)))
    · exact fun ac w hR hd hk K hK => yes (want_g rfl rfl ((hd 37 _ 116 rfl rfl rfl).val rfl)) (wp_callv 16 _ _ rfl _ Try.func16 rfl rfl _ (args1 ((hd 38 _ 117 rfl rfl rfl).val rfl)) (kE1 w) (by rintro e w' ⟨rfl, hb⟩; exact ⟨_, rfl, hK _ w' (PrV.is rfl rfl) (hb)⟩))
    · intro ac w hR hd hk K hK
      exact yes (want_g rfl rfl ((hd 37 _ 116 rfl rfl rfl).val rfl)) (wp_load_row 29 _ rfl g ((get_keep (hk 3 (no_dst (by kernel_rfl))) rfl)) 29 (jc j).toArray (0, 0) _ (row_keep rowg.out hR) Try.underlying29 rfl (by kernel_rfl) (hK _ w (PrV.is rfl rfl) (Below.refl _ _)))
    · exact fun ac w hR hd hk K hK => yes (want_g rfl rfl ((hd 37 _ 116 rfl rfl rfl).val rfl)) (wp_callv 17 _ _ rfl _ Try.func17 rfl rfl _ (args1 ((hd 40 _ 119 rfl rfl rfl).val rfl)) (kE2 w) (by rintro e w' ⟨rfl, hb⟩; exact ⟨_, rfl, hK _ w' (PrV.is rfl rfl) (hb)⟩))
    · intro ac w hR hd hk K hK
      have e118 : ac.tmps[118]?.getD undef = (.int .i64 EE : Value) := slot ((hd 39 _ 118 rfl rfl rfl).val rfl)
      have e120 : ac.tmps[120]?.getD undef = (.int .i64 EE : Value) := slot ((hd 41 _ 120 rfl rfl rfl).val rfl)
      refine yes (want_g rfl rfl ((hd 37 _ 116 rfl rfl rfl).val rfl)) ?_
      have hv := hid (hK (.bool false) w (PrV.is rfl rfl) (Below.refl _ _))
      go_simp
      refine kq hv.out ?_
      simp
    · exact fun ac w hR hd hk K hK => yes (want_n rfl) (wp_pick _ _ _ rfl false _ ((hd 37 _ 116 rfl rfl rfl).val rfl) ((hd 42 _ 121 rfl rfl rfl).val rfl) (hK _ w (PrV.is rfl rfl) (Below.refl _ _)))
    · exact fun ac w hR hd hk K hK => yes (want_n rfl) (wp_mv _ rfl _ ((hd 43 _ 122 rfl rfl rfl).val rfl) (hK _ w (PrV.is rfl rfl) (Below.refl _ _)))
    · intro ac w hR hd hk K hK
      have e4 : ac.tmps[4]?.getD undef = (.pointer (some ⟨g + 1, 0, none⟩) : Value) := slot (get_keep (hk 4 (no_dst (by kernel_rfl))) rfl)
      refine yes (want_g rfl rfl ((hd 44 _ 123 rfl rfl rfl).val rfl)) ?_
      have hv := hid (hK (.pointer (some ⟨g + 1, 1, none⟩)) w (PrV.is rfl rfl) (Below.refl _ _))
      go_simp
      refine kq hv.out ?_
      rfl
    · intro ac w hR hd hk K hK
      have e124 : ac.tmps[124]?.getD undef = (.pointer (some ⟨g + 1, 1, none⟩) : Value) := slot ((hd 45 _ 124 rfl rfl rfl).val rfl)
      have x1 := stay hR t1
      refine yes (want_g rfl rfl ((hd 44 _ 123 rfl rfl rfl).val rfl)) ?_
      have hv := hid (hK (.int .u8 t.st) w (PrV.is rfl rfl) (Below.refl _ _))
      go_simp
      refine kq hv.out ?_
      rfl
    · exact fun ac w hR hd hk K hK => yes (want_g rfl rfl ((hd 44 _ 123 rfl rfl rfl).val rfl)) (wp_callv 18 _ _ rfl _ Try.func18 rfl rfl _ (args1 ((hd 46 _ 125 rfl rfl rfl).val rfl)) (kO1 w) (by rintro e w' ⟨rfl, hb⟩; exact ⟨_, rfl, hK _ w' (PrV.is rfl rfl) (by subst hb; exact Below.refl _ _)⟩))
    · intro ac w hR hd hk K hK
      have e4 : ac.tmps[4]?.getD undef = (.pointer (some ⟨g + 1, 0, none⟩) : Value) := slot (get_keep (hk 4 (no_dst (by kernel_rfl))) rfl)
      refine yes (want_g rfl rfl ((hd 44 _ 123 rfl rfl rfl).val rfl)) ?_
      have hv := hid (hK (.pointer (some ⟨g + 1, 1, none⟩)) w (PrV.is rfl rfl) (Below.refl _ _))
      go_simp
      refine kq hv.out ?_
      rfl
    · intro ac w hR hd hk K hK
      have e127 : ac.tmps[127]?.getD undef = (.pointer (some ⟨g + 1, 1, none⟩) : Value) := slot ((hd 48 _ 127 rfl rfl rfl).val rfl)
      have x1 := stay hR t1
      refine yes (want_g rfl rfl ((hd 44 _ 123 rfl rfl rfl).val rfl)) ?_
      have hv := hid (hK (.int .u8 t.st) w (PrV.is rfl rfl) (Below.refl _ _))
      go_simp
      refine kq hv.out ?_
      rfl
    · exact fun ac w hR hd hk K hK => yes (want_g rfl rfl ((hd 44 _ 123 rfl rfl rfl).val rfl)) (wp_callv 19 _ _ rfl _ Try.func19 rfl rfl _ (args1 ((hd 49 _ 128 rfl rfl rfl).val rfl)) (kO2 w) (by rintro e w' ⟨rfl, hb⟩; exact ⟨_, rfl, hK _ w' (PrV.is rfl rfl) (by subst hb; exact Below.refl _ _)⟩))
    · intro ac w hR hd hk K hK
      have e126 : ac.tmps[126]?.getD undef = (.bool O : Value) := slot ((hd 47 _ 126 rfl rfl rfl).val rfl)
      have e129 : ac.tmps[129]?.getD undef = (.bool O : Value) := slot ((hd 50 _ 129 rfl rfl rfl).val rfl)
      refine yes (want_g rfl rfl ((hd 44 _ 123 rfl rfl rfl).val rfl)) ?_
      have hv := hid (hK (.bool false) w (PrV.is rfl rfl) (Below.refl _ _))
      go_simp
      refine kq hv.out ?_
      simp
    · exact fun ac w hR hd hk K hK => yes (want_n rfl) (wp_pick _ _ _ rfl false _ ((hd 44 _ 123 rfl rfl rfl).val rfl) ((hd 51 _ 130 rfl rfl rfl).val rfl) (hK _ w (PrV.is rfl rfl) (Below.refl _ _)))
  · intro a w8 hdf hsz hkp hval hRw
    obtain ⟨f, hf⟩ : ∃ f, f = fun d => a.tmps.getD d undef := ⟨_, rfl⟩
    have h131 : f 131 = .bool false := by rw [hf]; exact (hval 52 _ 131 rfl rfl).val rfl
    have hfa := act_filled hdf hsz hkp
    rw [← hf] at hfa
    rw [hfa]
    clear hdf hsz hkp hval hfa hf
    clear a
    simp only [fillAll, List.set_cons_zero, List.set_cons_succ, h131]
    clear h131
    have B8 := bnext B7 hRw
    obtain ⟨DA, hDA1, hDA2, hDA3, hDA4⟩ := (hA7.out.below hRw).own hD.out
    have hDA5 : A.s.dn ≤ j.s.dn := hDA4
    have hDL : DL W1 w8 (W1.heap.size + 1 + 1) b8 A := ⟨row_keep rowb8.out hRw, ⟨DA, hDA1, hDA2⟩, B8, hoffA.out⟩
    clear hDA1 hDA2 kAB kCF kR1 kR2 kE1 kE2 kO1 kO2 hA7 B7 t1 rowb7 rowg
    replace hDL := hid hDL
    have rowb7 := rowb70
    have rowg := rowg0
    clear rowb70 rowg0 hRw
    generalize hdn : A.s.dn = dn at *
    replace hdn := hid hdn
    go_wp2_with fail
    go_loopw [20] (fun i wr => ∃ q : Nat, q ≤ dn ∧ i = .int .i64 (q : Int) ∧ Hid (DL W1 wr (W1.heap.size + 1 + 1) b8 A)) (fun i _ => dn - (intOf i).toNat)
    case atStart => exact ⟨0, Nat.zero_le _, rfl, hDL⟩
    case round =>
      clear hDL B8
      obtain ⟨q, hq, rfl, hDL⟩ := hrel
      have c10 := row_cell hDL.out.row 10 (.slice A.s.da dn A.s.dc) (by rw [← hdn.out]; rfl)
      have ltb8 := World.block_lt_of_cell? _ _ c10
      by_cases hlt : q < dn
      · obtain ⟨DA, k1, k2⟩ := hDL.out.own
        rw [hdn.out] at k1 k2
        have k2' := k2
        unfold DOwn at k2'
        rw [k1] at k2'
        obtain ⟨ga, gc, e1, e2, e3, e4, e5⟩ := owns_spot k2' (by omega)
        simp only [Value.slice.injEq] at e1
        obtain ⟨e1, _, _⟩ := e1
        have k3 := k2
        rw [e1] at k3 c10
        obtain ⟨x1, x2⟩ := (k3.dat).one (i := q) (by rw [k1]; exact hlt)
        rw [Nat.zero_add] at x1 x2
        have hput := hid (hDL.out.put (by omega) e1 (by rw [hdn.out]; exact hlt) 77)
        have fz := e5 (q * 2 + 1)
        replace e1 := hid e1
        replace k1 := hid k1
        replace k2 := hid k2
        replace k3 := hid k3
        replace k2' := hid k2'
        replace e5 := hid e5
        generalize dpAt DA q = dq at *
        go_wp2_with fail
        go_roundw
        case rel => exact ⟨q + 1, by omega, by go_num, hput⟩
        case measure => simp [intOf]; omega
      · have hqe : q = dn := by omega
        subst hqe
        have B9 := hDL.out.bel
        have u2 := stay B9 T2.out
        have u3 := stay B9 T3.out
        have r7 := row_keep rowb7.out B9
        have hm := hid (job_range r7)
        have ltt2 := World.block_lt_of_cell? _ _ u2
        have kM := make_any t.x CJ.s t.now D wr (by rw [hCdn.out]; exact hD.out) (by rw [hCdn.out]; exact hl) (datC.out.below B9)
        replace r7 := hid r7
        go_wp2_with (refine wpList_load_mid rfl 24 (.tmp 148) rfl b7 3 rfl (sc CJ.s) _ hm.out Try.underlying24 rfl (by kernel_rfl) ?_)
        refine kM.mono ?_
        rintro e v1 ⟨mx, my, rfl, hmy, hmo, hv1⟩
        obtain ⟨M, hM⟩ : ∃ M, M = (mkJ t.x CJ.s t.now).re mx my := ⟨_, rfl⟩
        rw [← hM]
        have alm := below_lit v1 (.cells (jc M).toArray 29)
        have rowm : (v1.alloc (.cells (jc M).toArray 29)).heap[v1.heap.size]? = some (.cells (jc M).toArray 29 (0, 0)) := heap_alloc_new v1 _
        have hmo2 : DOwn v1 (wr.heap.size + 1) (.slice M.s.da M.s.dn M.s.dc) D := by rw [hM]; exact hmo
        have hDLm : DL wr (v1.alloc (.cells (jc M).toArray 29)) (wr.heap.size + 1) v1.heap.size M := ⟨rowm, ⟨D, by rw [hM]; exact (by rw [hD.out]; exact hCdn.out.symm), hmo2.below alm⟩, bnext hv1 alm, fun y hy => by
          rw [hy] at hmo2
          have := (owns_blk hmo2).2
          omega⟩
        obtain ⟨V1, hV1⟩ : ∃ V, V = v1.alloc (.cells (jc M).toArray 29) := ⟨_, rfl⟩
        rw [← hV1] at hDLm
        have hMle : M.s.dn ≤ 4611686018427387904 := by rw [hM]; show CJ.s.dn ≤ _; rw [hCdn.out]; exact hls
        clear alm rowm hmo hmo2 kM u2 u3
        replace hDLm := hid hDLm
        replace hM := hid hM
        replace hV1 := hid hV1
        go_wp2_with (refine wpList_store_row rfl 29 (.tmp 21) (.tmp 152) rfl v1.heap.size (jc M).toArray rfl rfl 29 _ (heap_alloc_new v1 _) (by kernel_rfl) rfl (jc_all _) ?_; rw [alloc_setRow]; rw [← hV1.out])
        generalize hbm : v1.heap.size = bm at *
        replace hbm := hid hbm
        generalize hmn : M.s.dn = mn at *
        replace hmn := hid hmn
        go_loopw [22] (fun i wx => ∃ q : Nat, q ≤ mn ∧ i = .int .i64 (q : Int) ∧ Hid (DL wr wx (wr.heap.size + 1) bm M)) (fun i _ => mn - (intOf i).toNat)
        case atStart => exact ⟨0, Nat.zero_le _, rfl, hDLm⟩
        case round =>
          clear hDLm
          obtain ⟨q2, hq2, rfl, hDLm⟩ := hrel
          rename_i wz
          have c10m := row_cell hDLm.out.row 10 (.slice M.s.da mn M.s.dc) (by rw [← hmn.out]; rfl)
          have ltbm := World.block_lt_of_cell? _ _ c10m
          by_cases hlt2 : q2 < mn
          · obtain ⟨DB, k1, k2⟩ := hDLm.out.own
            rw [hmn.out] at k1 k2
            have k2' := k2
            unfold DOwn at k2'
            rw [k1] at k2'
            obtain ⟨gb, gc, e1, e2, e3, e4, e5⟩ := owns_spot k2' (by omega)
            simp only [Value.slice.injEq] at e1
            obtain ⟨e1, _, _⟩ := e1
            have k3 := k2
            rw [e1] at k3 c10m
            obtain ⟨x1, x2⟩ := (k3.dat).one (i := q2) (by rw [k1]; exact hlt2)
            rw [Nat.zero_add] at x1 x2
            have hput := hid (fun v => hDLm.out.put (by omega) e1 (by rw [hmn.out]; exact hlt2) v)
            have fz := e5 (q2 * 2 + 1)
            replace e1 := hid e1
            replace k1 := hid k1
            replace k2 := hid k2
            replace k3 := hid k3
            replace k2' := hid k2'
            replace e5 := hid e5
            generalize dpAt DB q2 = dq at *
            go_wp2_with fail
            go_roundw
            case rel => exact ⟨q2 + 1, by omega, by go_num, hid (hput.out _)⟩
            case measure => simp [intOf]; omega
          · have hqe2 : q2 = mn := by omega
            subst hqe2
            have B10 := bnext B9 hDLm.out.bel
            have t2 := stay B10 T2.out
            have t3 := stay B10 T3.out
            have kM := fun wx (hR : Below _ _ wx) => make_any t.x j.s t.now D wx hD.out hl (hatJ.out.below (bnext B10 hR))
            have kN := fun wx (hR : Below _ _ wx) => rmake_any t.x j.s t.now D wx hD.out hl (hatJ.out.below (bnext B10 hR))
            have kS : ∀ wx, Below _ _ wx → Calls Try.prog 13 #[.agg (jc CJ).toArray, .agg (jc j).toArray] wx fun e w' => e = .returned (.bool true) ∧ Below wx.heap.size wx w' := fun wx hR => by
              have hd := datC.out.below (bnext B10 hR)
              rw [hCJ.out] at hd ⊢
              exact samejob j D x0 y0 wx hD.out hls hd (hatJ.out.below (bnext B10 hR))
            have rowb71 := hid (row_keep rowb7.out B10)
            have rowg1 := hid (row_keep rowg.out B10)
            clear rowb7 rowg
            have rowb7 := rowb71
            have rowg := rowg1
            clear rowb71 rowg1
            have hfin2 := hid (fun w' (h : Below _ _ w') => hfin.out w' (bnext B10 h))
            clear hDLm hDL c10 B9
            replace kM := hid kM
            replace kN := hid kN
            replace kS := hid kS
            go_wp2_with fail
            replace kM := kM.out
            replace kN := kN.out
            replace kS := kS.out
            refine wp_region_drawn (Rel := fun w w' => Below w.heap.size w w') (Pr := PrV (pv19 g b7 j CJ t) [10, 17] (fun _ v w => ∃ x y, v = .agg (jc ((mkJ t.x j.s t.now).re x y)).toArray ∧ DAt w x D)) (by kernel_rfl) (by kernel_rfl) (drew_below _) bel_tr (PrV.mono (fun _ _ _ _ h hb => by obtain ⟨x, y, h1, h2⟩ := h; exact ⟨x, y, h1, h2.below hb⟩)) ?_ ?_
            · refine ⟨?_, ?_, ?_, ?_, ?_, ?_, ?_, ?_, ?_, ?_, ?_, ?_, ?_, ?_, ?_, ?_, ?_, ?_, ?_, ?_, ?_, ?_, ?_, ?_, trivial⟩
              · intro ac w hR hd hk K hK
                exact yes (want_n rfl) (wp_load_row 29 _ rfl b7 ((get_keep (hk 7 (no_dst (by kernel_rfl))) rfl)) 29 (jc CJ).toArray (0, 0) _ (row_keep rowb7.out hR) Try.underlying29 rfl (by kernel_rfl) (hK _ w (PrV.is rfl rfl) (Below.refl _ _)))
              · intro ac w hR hd hk K hK
                exact yes (want_n rfl) (wp_load_row 29 _ rfl g ((get_keep (hk 3 (no_dst (by kernel_rfl))) rfl)) 29 (jc j).toArray (0, 0) _ (row_keep rowg.out hR) Try.underlying29 rfl (by kernel_rfl) (hK _ w (PrV.is rfl rfl) (Below.refl _ _)))
              · exact fun ac w hR hd hk K hK => yes (want_n rfl) (wp_callv 13 _ _ rfl _ Try.func13 rfl rfl _ (args2 ((hd 0 _ 171 rfl rfl rfl).val rfl) ((hd 1 _ 172 rfl rfl rfl).val rfl)) (kS w hR) (by rintro e w' ⟨rfl, hb⟩; exact ⟨_, rfl, hK _ w' (PrV.is rfl rfl) (hb)⟩))
              · exact fun ac w hR hd hk K hK => yes (want_n rfl) (wp_mv _ rfl _ ((hd 2 _ 173 rfl rfl rfl).val rfl) (hK _ w (PrV.is rfl rfl) (Below.refl _ _)))
              · intro ac w hR hd hk K hK
                have e4 : ac.tmps[4]?.getD undef = (.pointer (some ⟨g + 1, 0, none⟩) : Value) := slot (get_keep (hk 4 (no_dst (by kernel_rfl))) rfl)
                refine yes (want_g rfl rfl ((hd 3 _ 174 rfl rfl rfl).val rfl)) ?_
                have hv := hid (hK (.pointer (some ⟨g + 1, 2, none⟩)) w (PrV.is rfl rfl) (Below.refl _ _))
                go_simp
                refine kq hv.out ?_
                rfl
              · intro ac w hR hd hk K hK
                have e175 : ac.tmps[175]?.getD undef = (.pointer (some ⟨g + 1, 2, none⟩) : Value) := slot ((hd 4 _ 175 rfl rfl rfl).val rfl)
                have x1 := stay hR t2
                refine yes (want_g rfl rfl ((hd 3 _ 174 rfl rfl rfl).val rfl)) ?_
                have hv := hid (hK (.int .i64 t.x) w (PrV.is rfl rfl) (Below.refl _ _))
                go_simp
                refine kq hv.out ?_
                rfl
              · intro ac w hR hd hk K hK
                have e3 : ac.tmps[3]?.getD undef = (.pointer (some ⟨g, 0, none⟩) : Value) := slot (get_keep (hk 3 (no_dst (by kernel_rfl))) rfl)
                refine yes (want_g rfl rfl ((hd 3 _ 174 rfl rfl rfl).val rfl)) ?_
                have hv := hid (hK (.pointer (some ⟨g, 3, none⟩)) w (PrV.is rfl rfl) (Below.refl _ _))
                go_simp
                refine kq hv.out ?_
                rfl
              · intro ac w hR hd hk K hK
                exact yes (want_g rfl rfl ((hd 3 _ 174 rfl rfl rfl).val rfl)) (wp_load_mid 24 _ rfl g 3 (((hd 6 _ 177 rfl rfl rfl).val rfl)) (sc j.s) _ (job_range (row_keep rowg.out hR)) Try.underlying24 rfl (by kernel_rfl) (hK _ w (PrV.is rfl rfl) (Below.refl _ _)))
              · intro ac w hR hd hk K hK
                have e4 : ac.tmps[4]?.getD undef = (.pointer (some ⟨g + 1, 0, none⟩) : Value) := slot (get_keep (hk 4 (no_dst (by kernel_rfl))) rfl)
                refine yes (want_g rfl rfl ((hd 3 _ 174 rfl rfl rfl).val rfl)) ?_
                have hv := hid (hK (.pointer (some ⟨g + 1, 3, none⟩)) w (PrV.is rfl rfl) (Below.refl _ _))
                go_simp
                refine kq hv.out ?_
                rfl
              · intro ac w hR hd hk K hK
                have e179 : ac.tmps[179]?.getD undef = (.pointer (some ⟨g + 1, 3, none⟩) : Value) := slot ((hd 8 _ 179 rfl rfl rfl).val rfl)
                have x1 := stay hR t3
                refine yes (want_g rfl rfl ((hd 3 _ 174 rfl rfl rfl).val rfl)) ?_
                have hv := hid (hK (.int .i64 t.now) w (PrV.is rfl rfl) (Below.refl _ _))
                go_simp
                refine kq hv.out ?_
                rfl
              · intro ac w hR hd hk K hK
                refine yes (want_g rfl rfl ((hd 3 _ 174 rfl rfl rfl).val rfl)) (wp_callv 20 _ _ rfl _ Try.func20 rfl rfl _ (args3 ((hd 5 _ 176 rfl rfl rfl).val rfl) ((hd 7 _ 178 rfl rfl rfl).val rfl) ((hd 9 _ 180 rfl rfl rfl).val rfl)) (kM w hR) ?_)
                rintro e w' ⟨x, y, rfl, _, ho, hb⟩
                exact ⟨_, rfl, hK _ w' (PrV.by rfl ⟨x, y, rfl, ho.dat⟩) hb⟩
              · intro ac w hR hd hk K hK
                have e4 : ac.tmps[4]?.getD undef = (.pointer (some ⟨g + 1, 0, none⟩) : Value) := slot (get_keep (hk 4 (no_dst (by kernel_rfl))) rfl)
                refine yes (want_g rfl rfl ((hd 3 _ 174 rfl rfl rfl).val rfl)) ?_
                have hv := hid (hK (.pointer (some ⟨g + 1, 2, none⟩)) w (PrV.is rfl rfl) (Below.refl _ _))
                go_simp
                refine kq hv.out ?_
                rfl
              · intro ac w hR hd hk K hK
                have e182 : ac.tmps[182]?.getD undef = (.pointer (some ⟨g + 1, 2, none⟩) : Value) := slot ((hd 11 _ 182 rfl rfl rfl).val rfl)
                have x1 := stay hR t2
                refine yes (want_g rfl rfl ((hd 3 _ 174 rfl rfl rfl).val rfl)) ?_
                have hv := hid (hK (.int .i64 t.x) w (PrV.is rfl rfl) (Below.refl _ _))
                go_simp
                refine kq hv.out ?_
                rfl
              · intro ac w hR hd hk K hK
                have e3 : ac.tmps[3]?.getD undef = (.pointer (some ⟨g, 0, none⟩) : Value) := slot (get_keep (hk 3 (no_dst (by kernel_rfl))) rfl)
                refine yes (want_g rfl rfl ((hd 3 _ 174 rfl rfl rfl).val rfl)) ?_
                have hv := hid (hK (.pointer (some ⟨g, 3, none⟩)) w (PrV.is rfl rfl) (Below.refl _ _))
                go_simp
                refine kq hv.out ?_
                rfl
              · intro ac w hR hd hk K hK
                exact yes (want_g rfl rfl ((hd 3 _ 174 rfl rfl rfl).val rfl)) (wp_load_mid 24 _ rfl g 3 (((hd 13 _ 184 rfl rfl rfl).val rfl)) (sc j.s) _ (job_range (row_keep rowg.out hR)) Try.underlying24 rfl (by kernel_rfl) (hK _ w (PrV.is rfl rfl) (Below.refl _ _)))
              · intro ac w hR hd hk K hK
                have e4 : ac.tmps[4]?.getD undef = (.pointer (some ⟨g + 1, 0, none⟩) : Value) := slot (get_keep (hk 4 (no_dst (by kernel_rfl))) rfl)
                refine yes (want_g rfl rfl ((hd 3 _ 174 rfl rfl rfl).val rfl)) ?_
                have hv := hid (hK (.pointer (some ⟨g + 1, 3, none⟩)) w (PrV.is rfl rfl) (Below.refl _ _))
                go_simp
                refine kq hv.out ?_
                rfl
              · intro ac w hR hd hk K hK
                have e186 : ac.tmps[186]?.getD undef = (.pointer (some ⟨g + 1, 3, none⟩) : Value) := slot ((hd 15 _ 186 rfl rfl rfl).val rfl)
                have x1 := stay hR t3
                refine yes (want_g rfl rfl ((hd 3 _ 174 rfl rfl rfl).val rfl)) ?_
                have hv := hid (hK (.int .i64 t.now) w (PrV.is rfl rfl) (Below.refl _ _))
                go_simp
                refine kq hv.out ?_
                rfl
              · intro ac w hR hd hk K hK
                refine yes (want_g rfl rfl ((hd 3 _ 174 rfl rfl rfl).val rfl)) (wp_callv 21 _ _ rfl _ Try.func21 rfl rfl _ (args3 ((hd 12 _ 183 rfl rfl rfl).val rfl) ((hd 14 _ 185 rfl rfl rfl).val rfl) ((hd 16 _ 187 rfl rfl rfl).val rfl)) (kN w hR) ?_)
                rintro e w' ⟨x, y, rfl, _, ho, hb⟩
                exact ⟨_, rfl, hK _ w' (PrV.by rfl ⟨x, y, rfl, ho.dat⟩) hb⟩
              · intro ac w hR hd hk K hK
                obtain ⟨x, y, hv1, ha1⟩ := (hd 10 _ 181 rfl rfl rfl).out rfl
                obtain ⟨x2, y2, hv2, ha2⟩ := (hd 17 _ 188 rfl rfl rfl).out rfl
                refine yes (want_g rfl rfl ((hd 3 _ 174 rfl rfl rfl).val rfl)) (wp_callv 13 _ _ rfl _ Try.func13 rfl rfl _ (args2 hv1 hv2) (samejob ((mkJ t.x j.s t.now).re x2 y2) D x y w hD.out hls ha1 ha2) ?_)
                rintro e w' ⟨rfl, hb⟩
                exact ⟨_, rfl, hK _ w' (PrV.is rfl rfl) hb⟩
              · exact fun ac w hR hd hk K hK => yes (want_n rfl) (wp_pick _ _ _ rfl true _ ((hd 3 _ 174 rfl rfl rfl).val rfl) ((hd 18 _ 189 rfl rfl rfl).val rfl) (hK _ w (PrV.is rfl rfl) (Below.refl _ _)))
              · exact fun ac w hR hd hk K hK => yes (want_n rfl) (wp_mv _ rfl _ ((hd 19 _ 190 rfl rfl rfl).val rfl) (hK _ w (PrV.is rfl rfl) (Below.refl _ _)))
              · exact fun ac w hR hd hk K hK => yes (want_g rfl rfl ((hd 20 _ 191 rfl rfl rfl).val rfl)) (wp_callv 22 _ _ rfl _ Try.func22 rfl rfl _ (args0) (awake_any w) (by rintro e w' ⟨rfl, hb⟩; exact ⟨_, rfl, hK _ w' (PrV.is rfl rfl) (hb)⟩))
              · exact fun ac w hR hd hk K hK => yes (want_n rfl) (wp_pick _ _ _ rfl true _ ((hd 20 _ 191 rfl rfl rfl).val rfl) ((hd 21 _ 192 rfl rfl rfl).val rfl) (hK _ w (PrV.is rfl rfl) (Below.refl _ _)))
              · exact fun ac w hR hd hk K hK => yes (want_n rfl) (wp_as _ rfl _ ((hd 22 _ 193 rfl rfl rfl).val rfl) (hK _ w (PrV.is rfl rfl) (Below.refl _ _)))
            · intro a w9 hdf hsz hkp hval hRw
              obtain ⟨f, hf⟩ : ∃ f, f = fun d => a.tmps.getD d undef := ⟨_, rfl⟩
              have h6 : f 6 = .bool true := by rw [hf]; exact (hval 23 _ 6 rfl rfl).val rfl
              have hfa := act_filled hdf hsz hkp
              rw [← hf] at hfa
              rw [hfa]
              clear hdf hsz hkp hval hfa hf
              clear a
              simp only [fillAll, List.set_cons_zero, List.set_cons_succ, h6]
              clear h6
              go_wp2
              go_ret
              exact ⟨rfl, hfin2.out _ hRw⟩
end Go.Proofs.Ytlhmlfinflodaaa
