/- FrameNumbers's Go text returns true, whatever the memory. -/
import Derived.Test.YtdhafnmahpafaaaTurn
namespace Go.Proofs.Ytdhafnmahpafaaa
open Go.RowKit

/-- 'make([]byte, n)'. -/
theorem wpList_zeros (w : World) {ops : Array Oper} {rest : List Oper} {o : Oper} {a : Act} {Q : Exit → Act → World → Prop} (hg : o.guard = none) (s t : Operand) (hop : o.op = Op.makeSlice 22 s t) (N : Int) (n : Nat) (hs : a.eval s = .int .i64 N) (ht : a.eval t = .int .i64 N) (hN : N = n) (hn : n ≤ 1000000)
    (hK : ∀ w', Row w' w.heap.size (List.replicate n 0) → Below w.heap.size w w' → wpList Try.prog ops Q rest (a.put o.dst (.slice (some ⟨w.heap.size, 0, none⟩) n n)) w') : wpList Try.prog ops Q (o :: rest) a w := by
  obtain ⟨i0, hi, hz0, hz1, hz2⟩ := info_parts info5
  refine wpList_make_full w hg s t 22 hop w.heap.size 5 i0 _ 1 Try.underlying22 hi hz0 hz1 .i64 .i64 N N n hs ht hN hN (by rw [hz2]; omega) (by unfold maxLen; omega) (Nat.le_refl _) ?_
  intro w' h1 h2
  exact hK w' (row_made h1) ((Below.refl _ _).grown h2 (Nat.le_refl _) (fun k hk => by cases hk))

theorem feed_frame (f : Fr) (hb : f.2.length ≤ 65535) : feedOf (some []) (frameOf f) = ([f], some []) := by
  show takeOf _ = _
  rw [List.nil_append, ← List.append_nil (frameOf f), take_frame f [] hb, take_nil]

theorem putf_len (K : Int) (len cap : Nat) (a : Option Addr) (w : World) (k : UInt8) (hK : K = (k.toNat : Int)) (hlen : 65535 < len) :
    Calls Try.prog 8 #[.agg #[.int .u8 K, .slice a len cap]] w fun e w' => e = .returned (.tuple #[.slice none 0 0, .int .i64 3]) ∧ Below w.heap.size w w' := by
  subst hK; exact put_long k len cap a w hlen

theorem bad1 : headOf [0, 0, 0, 0] = some none := by decide +kernel
theorem bad2 : headOf [0, 1, 0, 1] = some none := by decide +kernel
theorem bad3 : headOf [255, 255, 255, 255] = some none := by decide +kernel
theorem full4 : headOf [0, 1, 0, 0] = none := by decide +kernel

theorem xor51 : bits BinOp.xor IntKind.u8 5 1 = 4 := by decide +kernel

theorem head_feed1 (h : List UInt8) : feedOf (some []) (h.take 3) = ([], some (h.take 3)) := by
  refine take_cut ?_
  unfold headOf
  rw [if_pos (by simp; omega)]

theorem head_feed2 (h : List UInt8) (hb : headOf h = some none) : feedOf (some (h.take 3)) (h.drop 3) = ([], none) := by
  show takeOf _ = _
  rw [List.take_append_drop, take_wrong hb]

/-- What the loop over wrong lengths finds laid: the heads, and the long frame. -/
structure Laid (W : World) (G g : Nat) (F : List UInt8) : Prop where
  c0 : W.cell? ⟨G + 3, 0, none⟩ = some (.slice (some ⟨G, 0, none⟩) 4 4)
  c1 : W.cell? ⟨G + 3, 1, none⟩ = some (.slice (some ⟨G + 1, 0, none⟩) 4 4)
  c2 : W.cell? ⟨G + 3, 2, none⟩ = some (.slice (some ⟨G + 2, 0, none⟩) 4 4)
  r0 : Row W G [0, 0, 0, 0]
  r1 : Row W (G + 1) [0, 1, 0, 1]
  r2 : Row W (G + 2) [255, 255, 255, 255]
  f : Row W g F

theorem Laid.below {W W' : World} {G g : Nat} {F : List UInt8} (h : Laid W G g F) (hb : Below W.heap.size W W') : Laid W' G g F :=
  ⟨by rw [hb.cell (p := ⟨G + 3, 0, none⟩) (World.block_lt_of_cell? W _ h.c0)]; exact h.c0, by rw [hb.cell (p := ⟨G + 3, 1, none⟩) (World.block_lt_of_cell? W _ h.c1)]; exact h.c1,
   by rw [hb.cell (p := ⟨G + 3, 2, none⟩) (World.block_lt_of_cell? W _ h.c2)]; exact h.c2, h.r0.below hb, h.r1.below hb, h.r2.below hb, h.f.below hb⟩

theorem row_new (w : World) (l : List UInt8) (cs : Array Value) (G : Nat) (hG : G = w.heap.size) (h : cs = (l.map B).toArray) : Row (w.alloc (.cells cs 5)) G l := by
  subst hG; subst h
  exact heap_alloc_new w _

theorem laid_new (w : World) (g : Nat) (F : List UInt8) (hF : Row w g F) (c0 c1 c2 c3 : Array Value) (h0 : c0 = (([0, 0, 0, 0] : List UInt8).map B).toArray) (h1 : c1 = (([0, 1, 0, 1] : List UInt8).map B).toArray) (h2 : c2 = (([255, 255, 255, 255] : List UInt8).map B).toArray)
    (h3 : c3 = #[.slice (some ⟨w.heap.size, 0, none⟩) 4 4, .slice (some ⟨w.heap.size + 1, 0, none⟩) 4 4, .slice (some ⟨w.heap.size + 2, 0, none⟩) 4 4]) :
    Laid ((((w.alloc (.cells c0 5)).alloc (.cells c1 5)).alloc (.cells c2 5)).alloc (.cells c3 22)) w.heap.size g F := by
  have e := heap_alloc_new (((w.alloc (.cells c0 5)).alloc (.cells c1 5)).alloc (.cells c2 5)) (.cells c3 22)
  rw [show (((w.alloc (.cells c0 5)).alloc (.cells c1 5)).alloc (.cells c2 5)).heap.size = w.heap.size + 3 by simp] at e
  refine ⟨?_, ?_, ?_, ?_, ?_, ?_, (((hF.below (below_lit _ _)).below (below_lit _ _)).below (below_lit _ _)).below (below_lit _ _)⟩
  · rw [cell_of_row _ (w.heap.size + 3) 0 _ 22 (0, 0) e, h3]; rfl
  · rw [cell_of_row _ (w.heap.size + 3) 1 _ 22 (0, 0) e, h3]; rfl
  · rw [cell_of_row _ (w.heap.size + 3) 2 _ 22 (0, 0) e, h3]; rfl
  · exact (((row_new w _ _ _ rfl h0).below (below_lit _ _)).below (below_lit _ _)).below (below_lit _ _)
  · exact ((row_new _ _ _ _ (by simp) h1).below (below_lit _ _)).below (below_lit _ _)
  · exact (row_new _ _ _ _ (by simp) h2).below (below_lit _ _)

theorem feed_none (p cap len : Nat) (v : Value) (a : Option Addr) (w : World) (h : Rd w p v none) :
    Calls Try.prog 10 #[.pointer (some ⟨p, 0, none⟩), .slice a len cap] w fun e w' => e = .returned (.tuple #[.slice none 0 0, .int .i64 30]) ∧ w' = w := feed_broken p cap len v a w h

set_option maxRecDepth 100000 in
set_option maxHeartbeats 2000000 in
theorem numbers_any (w : World) : Calls Try.prog 3 #[] w fun e w' => e = .returned (.bool true) ∧ Below w.heap.size w w' := by
  have kc := const_run
  go_enter Try.func3, Try.ntmps3
  go_wp2_with (at_make; refine wpList_zeros _ rfl _ _ rfl 65536 65536 rfl rfl rfl (by omega) ?_; intro w1 hr1 hb1)
  clear hr1
  go_wp2_with fail
  refine (putf_len 0 65536 65536 _ _ 0 rfl (by omega)).mono ?_
  rintro e w2 ⟨rfl, hb2⟩
  replace hb1 := bnext hb1 hb2
  clear hb2
  go_wp2_with (at_make; refine wpList_zeros _ rfl _ _ rfl 65535 65535 rfl rfl rfl (by omega) ?_; intro w3 hr3 hb3)
  replace hb1 := bnext hb1 hb3
  obtain ⟨Z, hZ⟩ : ∃ Z : List UInt8, Z = List.replicate 65535 0 := ⟨_, rfl⟩
  have hZl : Z.length = 65535 := by rw [hZ, List.length_replicate]
  rw [← hZ] at hr3
  clear hZ
  go_wp2_with fail
  refine (putf_of 1 1 65535 65535 65544 _ Z _ rfl rfl hZl (by omega) hr3.at).mono ?_
  rintro e w4 ⟨g, rfl, hg, hF, hb4⟩
  replace hb1 := bnext hb1 hb4
  have hfd := feed_frame (1, Z) (by rw [hZl]; omega)
  have hFl : (frameOf (1, Z)).length = 65544 := by rw [frame_len]; simp [hZl]
  have hgl := hF.lt
  clear hb3 hb4 hr3
  go_wp2_with fail
  refine (new_any _).mono ?_
  rintro e w5 ⟨p, rfl, hp, hrd, hb5⟩
  replace hF := hF.below hb5
  have hz5 := hb5.size
  go_wp2_with fail
  refine (feed_of p 65544 65544 w4.heap.size _ _ (some []) (frameOf (1, Z)) [(1, Z)] (some []) 0 1 _ hrd hp (fun k hk => by cases hk) hz5 hFl (by simp) hF.at hfd rfl rfl).mono ?_
  rintro e w6 ⟨a6, c6, v6, its6, hi6, hn6, rfl, hrd6, hf6, hb6, hv6⟩
  replace hF := hF.low hb6 hgl
  replace hb5 := hb5.trans hb6
  obtain ⟨i6, rfl⟩ : ∃ i6, its6 = [i6] := by
    match its6, hn6 with
    | [i], _ => exact ⟨i, rfl⟩
  have hib : i6.body.length = 65535 := by
    simp only [List.map_cons, List.map_nil, It.fr, List.cons.injEq, Prod.mk.injEq, and_true] at hi6
    rw [hi6.2, hZl]
  obtain ⟨b6, o6, rfl, hc6⟩ := hf6.fat.1 (by simp)
  have hx6 := (hc6 0 (by simp)).2
  simp only [List.getElem_cons_zero, Nat.zero_mul, Nat.add_zero] at hx6
  rw [hib] at hx6
  clear hc6 hf6 hi6 hn6
  go_wp2_with fail
  refine (left_any p v6 _ _ hrd6).mono ?_
  rintro e w7 ⟨rfl, rfl⟩
  go_wp2_with fail
  have hlaid := laid_new w7 g (frameOf (1, Z)) hF _ _ _ _ rfl rfl rfl rfl
  have hbW := bnext (bnext (bnext (below_lit w7 (.cells #[.int .u8 0, .int .u8 0, .int .u8 0, .int .u8 0] 5)) (below_lit _ (.cells #[.int .u8 0, .int .u8 1, .int .u8 0, .int .u8 1] 5))) (below_lit _ (.cells #[.int .u8 255, .int .u8 255, .int .u8 255, .int .u8 255] 5))) (below_lit _ (.cells #[.slice (some ⟨w7.heap.size, 0, none⟩) 4 4, .slice (some ⟨w7.heap.size + 1, 0, none⟩) 4 4, .slice (some ⟨w7.heap.size + 2, 0, none⟩) 4 4] 22))
  obtain ⟨W, hW⟩ : ∃ W, W = ((((w7.alloc (.cells #[.int .u8 0, .int .u8 0, .int .u8 0, .int .u8 0] 5)).alloc (.cells #[.int .u8 0, .int .u8 1, .int .u8 0, .int .u8 1] 5)).alloc (.cells #[.int .u8 255, .int .u8 255, .int .u8 255, .int .u8 255] 5)).alloc (.cells #[.slice (some ⟨w7.heap.size, 0, none⟩) 4 4, .slice (some ⟨w7.heap.size + 1, 0, none⟩) 4 4, .slice (some ⟨w7.heap.size + 2, 0, none⟩) 4 4] 22)) := ⟨_, rfl⟩
  rw [← hW] at hbW ⊢
  have hlaid' : Laid W w7.heap.size g (frameOf (1, Z)) := by rw [hW]; exact hlaid
  clear hlaid hW
  obtain ⟨G, hG⟩ : ∃ G, G = w7.heap.size := ⟨_, rfl⟩
  rw [← hG] at hlaid' ⊢
  replace hb1 := bnext (hb1.trans (hb5.mono hb1.size)) hbW
  clear hbW hG hb5 hb6 hx6 hib hrd hrd6 hv6
  go_loopw [79] (fun i wr => ∃ j : Nat, j ≤ 3 ∧ i = .int .i64 j ∧ Below W.heap.size W wr) (fun i _ => 3 - (intOf i).toNat)
  case atStart => exact ⟨0, by omega, rfl, Below.refl _ _⟩
  case round =>
    obtain ⟨j, hj, rfl, hb⟩ := hrel
    have hL := hlaid'.below hb
    have d0 := hL.c0
    have d1 := hL.c1
    have d2 := hL.c2
    have hj3 : j = 0 ∨ j = 1 ∨ j = 2 ∨ j = 3 := by omega
    rcases hj3 with rfl | rfl | rfl | rfl
    · have hh := hL.r0
      go_wp2_with fail
      refine (new_any _).mono ?_
      rintro e x1 ⟨q, rfl, hq, hd1, hx1⟩
      have hh1 := hh.below hx1
      have hy1 := hx1.size
      have hhl := hh.lt
      go_wp2_with fail
      refine (feed_of q 4 3 wr.heap.size _ _ (some []) (([0, 0, 0, 0] : List UInt8).take 3) [] (some (([0, 0, 0, 0] : List UInt8).take 3)) 0 0 _ hd1 hq (fun k hk => by cases hk) hy1 rfl (by simp) (hh1.at.take 3) (head_feed1 _) rfl rfl).mono ?_
      rintro e x2 ⟨a2, c2, v2, its2, -, -, rfl, hd2, -, hx2, hv2⟩
      have hh2 := hh1.low hx2 hhl
      replace hx1 := hx1.trans hx2
      have hy2 := hx1.size
      go_wp2_with fail
      refine (feed_of q 1 1 wr.heap.size _ _ (some (([0, 0, 0, 0] : List UInt8).take 3)) (([0, 0, 0, 0] : List UInt8).drop 3) [] none 30 0 _ hd2 hq hv2 hy2 rfl (by simp) (hh2.drop 3) (head_feed2 _ bad1) rfl rfl).mono ?_
      rintro e x3 ⟨a3, c3, v3, its3, -, -, rfl, hd3, -, hx3, hv3⟩
      replace hx1 := hx1.trans hx3
      go_wp2_with fail
      refine (feed_none q 65544 65544 _ _ _ hd3).mono ?_
      rintro e x4 ⟨rfl, rfl⟩
      go_wp2_with fail
      refine (left_any q v3 _ _ hd3).mono ?_
      rintro e x5 ⟨rfl, rfl⟩
      go_wp2
      go_roundw
      case rel => exact ⟨1, by omega, by go_num, hb.trans (hx1.mono hb.size)⟩
      case measure => simp [intOf]
    · have hh := hL.r1
      go_wp2_with fail
      refine (new_any _).mono ?_
      rintro e x1 ⟨q, rfl, hq, hd1, hx1⟩
      have hh1 := hh.below hx1
      have hy1 := hx1.size
      have hhl := hh.lt
      go_wp2_with fail
      refine (feed_of q 4 3 wr.heap.size _ _ (some []) (([0, 1, 0, 1] : List UInt8).take 3) [] (some (([0, 1, 0, 1] : List UInt8).take 3)) 0 0 _ hd1 hq (fun k hk => by cases hk) hy1 rfl (by simp) (hh1.at.take 3) (head_feed1 _) rfl rfl).mono ?_
      rintro e x2 ⟨a2, c2, v2, its2, -, -, rfl, hd2, -, hx2, hv2⟩
      have hh2 := hh1.low hx2 hhl
      replace hx1 := hx1.trans hx2
      have hy2 := hx1.size
      go_wp2_with fail
      refine (feed_of q 1 1 wr.heap.size _ _ (some (([0, 1, 0, 1] : List UInt8).take 3)) (([0, 1, 0, 1] : List UInt8).drop 3) [] none 30 0 _ hd2 hq hv2 hy2 rfl (by simp) (hh2.drop 3) (head_feed2 _ bad2) rfl rfl).mono ?_
      rintro e x3 ⟨a3, c3, v3, its3, -, -, rfl, hd3, -, hx3, hv3⟩
      replace hx1 := hx1.trans hx3
      go_wp2_with fail
      refine (feed_none q 65544 65544 _ _ _ hd3).mono ?_
      rintro e x4 ⟨rfl, rfl⟩
      go_wp2_with fail
      refine (left_any q v3 _ _ hd3).mono ?_
      rintro e x5 ⟨rfl, rfl⟩
      go_wp2
      go_roundw
      case rel => exact ⟨2, by omega, by go_num, hb.trans (hx1.mono hb.size)⟩
      case measure => simp [intOf]
    · have hh := hL.r2
      go_wp2_with fail
      refine (new_any _).mono ?_
      rintro e x1 ⟨q, rfl, hq, hd1, hx1⟩
      have hh1 := hh.below hx1
      have hy1 := hx1.size
      have hhl := hh.lt
      go_wp2_with fail
      refine (feed_of q 4 3 wr.heap.size _ _ (some []) (([255, 255, 255, 255] : List UInt8).take 3) [] (some (([255, 255, 255, 255] : List UInt8).take 3)) 0 0 _ hd1 hq (fun k hk => by cases hk) hy1 rfl (by simp) (hh1.at.take 3) (head_feed1 _) rfl rfl).mono ?_
      rintro e x2 ⟨a2, c2, v2, its2, -, -, rfl, hd2, -, hx2, hv2⟩
      have hh2 := hh1.low hx2 hhl
      replace hx1 := hx1.trans hx2
      have hy2 := hx1.size
      go_wp2_with fail
      refine (feed_of q 1 1 wr.heap.size _ _ (some (([255, 255, 255, 255] : List UInt8).take 3)) (([255, 255, 255, 255] : List UInt8).drop 3) [] none 30 0 _ hd2 hq hv2 hy2 rfl (by simp) (hh2.drop 3) (head_feed2 _ bad3) rfl rfl).mono ?_
      rintro e x3 ⟨a3, c3, v3, its3, -, -, rfl, hd3, -, hx3, hv3⟩
      replace hx1 := hx1.trans hx3
      go_wp2_with fail
      refine (feed_none q 65544 65544 _ _ _ hd3).mono ?_
      rintro e x4 ⟨rfl, rfl⟩
      go_wp2_with fail
      refine (left_any q v3 _ _ hd3).mono ?_
      rintro e x5 ⟨rfl, rfl⟩
      go_wp2
      go_roundw
      case rel => exact ⟨3, by omega, by go_num, hb.trans (hx1.mono hb.size)⟩
      case measure => simp [intOf]
    · clear d0 d1 d2 hL
      replace hb1 := bnext hb1 hb
      clear hb hlaid'
      go_wp2_with fail
      refine (new_any _).mono ?_
      rintro e y1 ⟨px, rfl, hpx, hdx, hy1⟩
      have hz1 := hy1.size
      go_wp2_with fail
      refine (feed_of px 4 4 wr.heap.size _ _ (some []) [0, 1, 0, 0] [] (some [0, 1, 0, 0]) 0 0 _ (hdx.below (below_lit _ _)) hpx (fun k hk => by cases hk) (by simp; omega) rfl (by simp) (at_lit y1 [0, 1, 0, 0] _ rfl) (take_cut full4) rfl rfl).mono ?_
      rintro e y2 ⟨a2, c2, vx, its2, -, -, rfl, hdx2, -, hy2, hvx⟩
      replace hy1 := hy1.trans (((below_lit y1 _).mono hz1).trans hy2)
      replace hb1 := bnext hb1 hy1
      clear hy2 hdx hz1 hy1 hvx
      go_wp2_with fail
      refine (putf_of 5 5 2 2 11 _ [97, 98] _ rfl rfl rfl (by omega) (at_mark y2 [97, 98] _ _ rfl)).mono ?_
      rintro e y3 ⟨g3, rfl, hg3, hr3, hy3⟩
      replace hy3 := bnext (below_lit y2 _) hy3
      replace hdx2 := hdx2.below hy3
      replace hb1 := bnext hb1 hy3
      have h15 := two_byte
      have htt := two_turned
      have hl11 : (frameOf (5, [97, 98])).length = 11 := frame_len _
      generalize frameOf (5, [97, 98]) = F5 at *
      go_wp2_with fail
      refine (copy_any _ 11 11 F5 _ hl11 (by omega) hr3.at).mono ?_
      rintro e y4 ⟨v4, rfl, ho4, hy4⟩
      have hz4 := hy4.size
      have hr4 := hr3.below hy4
      have hl22 : (F5 ++ F5).length = 22 := by rw [List.length_append, hl11]
      go_wp2_with (at_builtin; refine wpList_app _ rfl (.tmp 149) (.tmp 150) rfl rfl y3.heap.size _ F5 F5 rfl ho4 (some ⟨g3, 0, none⟩) 11 11 rfl hl11 hr4.at (by omega) hz4 ?_; intro v5 y5 ho5 hy5; obtain ⟨g5, c5, hv5, hc5, hat5⟩ := ho5.form_pos (by intro e; rw [e] at hl22; simp at hl22); rw [hl22] at hv5; subst hv5; have hx5 := ho5.cellAt hl22 15 (by omega); rw [h15] at hx5; have hx6 : y5.cell? ⟨g5, 15, none⟩ = some (.int .u8 5) := hx5; have hfx := ho5.free hl22 15)
      have ho6 : Own (y5.setCell ⟨g5, 15, none⟩ (.int .u8 4)) y3.heap.size (.slice (some ⟨g5, 0, none⟩) 22 c5) ((F5 ++ F5).set 15 4) := ho5.set hl22 15 4
      have hy6 : Below y3.heap.size y3 (y5.setCell ⟨g5, 15, none⟩ (.int .u8 4)) := (hy4.trans hy5).setCell (p := ⟨g5, 15, none⟩) ho5.base_le _
      clear hx5 hx6 hfx ho5 hat5 hy5 hy4 ho4 h15
      rw [xor51]
      replace hdx2 := hdx2.below hy6
      replace hb1 := bnext hb1 hy6
      have hl6 : ((F5 ++ F5).set 15 4).length = 22 := by rw [List.length_set, hl22]
      generalize (F5 ++ F5).set 15 4 = M at *
      generalize y5.setCell ⟨g5, 15, none⟩ (.int .u8 4) = y6 at *
      have hpl := hdx2.1.lt
      have hvl := fun k hk => (hdx2.2.lt k hk).2
      refine (new_any _).mono ?_
      rintro e y7 ⟨py, rfl, hpy, hdy, hy7⟩
      have hz7 := hy7.size
      have ho7 := ho6.below hy7
      have hdx7 := hdx2.below hy7
      go_wp2_with fail
      refine (feed_of py c5 22 y6.heap.size _ _ (some []) M [(5, [97, 98])] none 30 1 _ hdy hpy (fun k hk => by cases hk) hz7 hl6 (by simp) ho7.at' htt rfl rfl).mono ?_
      rintro e y8 ⟨a8, c8, v8, its8, -, -, rfl, hdy8, -, hy8, hv8⟩
      have hdx8 := hdx7.low hy8 hpl hvl
      replace hb1 := bnext hb1 (hy7.trans hy8)
      go_wp2_with fail
      refine (left_any px vx _ _ hdx8).mono ?_
      rintro e y9 ⟨rfl, rfl⟩
      go_wp2_with (go_at_call 13; refine (awake_any _).mono ?_; rintro e y10 ⟨rfl, hy10⟩)
      go_ret
      exact ⟨rfl, bnext hb1 hy10⟩
end Go.Proofs.Ytdhafnmahpafaaa
