/- awake of musterlaw07. -/
import Derived.Test.YtcbgnodmamcmkaaAwkP
namespace Go.Proofs.Ytcbgnodmamcmkaa
open Go.RowKit

/-- Records of a log, as records in memory. -/
def RX.rm (l : List UInt8) (x : RX) : Rm := ⟨numAt l x.p, (kindAt l x.p).toNat, bodyAt l x.p, x.a, x.c⟩
theorem RX.rm_cells {n₀ : Nat} {l : List UInt8} {x : RX} {W : World} (h : RX.ok n₀ l x W) : (RX.rm l x).cells = RX.cells l x := by
  have : sizeAt l x.p - 9 = (bodyAt l x.p).length := by
    obtain ⟨a', c', e, _⟩ := h.2.form
    injection e
  simp [RX.rm, Rm.cells, RX.cells, this]
theorem rx_rat {n₀ : Nat} {l : List UInt8} {W : World} {a : Option Addr} : ∀ {xs : List RX}, (∀ x ∈ xs, RX.ok n₀ l x W) → CAt W a (xs.flatMap (RX.cells l)) → RAt W a (xs.map (RX.rm l)) := by
  intro xs hok hc
  have e : (xs.map (RX.rm l)).flatMap Rm.cells = xs.flatMap (RX.cells l) := by
    clear hc
    induction xs with
    | nil => rfl
    | cons x xs ih =>
      rw [List.map_cons, List.flatMap_cons, List.flatMap_cons, ih (fun y hy => hok y (by simp [hy])), RX.rm_cells (hok x (by simp))]
  refine ⟨by rw [e]; exact hc, fun i hi => ?_⟩
  obtain ⟨x, hx, rfl⟩ := List.mem_map.1 hi
  exact (hok x hx).2.at

theorem JNow.bel {base : Nat} {w w' : World} {g p : Nat} {x : Dx} {j j' : Jr} (h : JNow base w w' g p x j') (hi : JIs base w g p x j) (hg : base ≤ g) (hb : base ≤ w.heap.size) : ∃ x', JIs base w' g p x' j' ∧ Below base w w' := by
  obtain ⟨x', h1, _, h3⟩ := h
  refine ⟨x', h1, h3.below (fun k e => ?_) hb⟩
  rcases e with e | e
  · exact hi.disk.turn k e
  · omega

theorem cat_here (W : World) (cs : List Value) (A : Array Value) (t : TypeId) (m : Nat × Nat) (h : A = cs.toArray) (g : Nat) (hg : W.heap.size = g) : CAt (W.alloc (.cells A t m)) (some ⟨g, 0, none⟩) cs := by
  subst h; subst hg
  refine fun _ => ⟨W.heap.size, 0, rfl, fun i hi => ?_⟩
  have hh : (W.alloc (.cells cs.toArray t m)).heap[W.heap.size]? = some (.cells cs.toArray t m) := heap_alloc_new W _
  rw [Nat.zero_add]
  unfold World.cell?
  simp only [hh]
  simp [hi]
theorem app7 (base gj p : Nat) (x : Dx) (j j' : Jr) (c : UInt8) (cv NI : Int) (w : World) (hj : JIs base w gj p x j) (hb : base ≤ w.heap.size) (hg : base ≤ gj) (hf : j.d.ops.length ≤ 1000000) (hcv : cv = (c.toNat : Int)) (he : j.apE 7 [c] = 0) (hN : NI = (j.apN 7 [c] : Int)) (hj' : j.ap 7 [c] = j') :
    Calls Try.prog 13 #[.pointer (some ⟨gj, 0, none⟩), .int .u8 7, .slice (some ⟨w.heap.size, 0, none⟩) 1 1] (w.alloc (.cells #[.int .u8 cv] 5 (1, 2))) fun e w' => e = .returned (.tuple #[.int .i64 NI, .int .i64 0]) ∧ ∃ x', JIs base w' gj p x' j' ∧ Below base w w' := by
  subst hcv; subst hN; subst hj'
  have bl := below_lit w (.cells #[.int .u8 (c.toNat : Int)] 5 (1, 2))
  refine (append_j base gj p x j 7 _ 1 1 [c] _ (hj.below bl) (Nat.le_trans hb bl.size) hf rfl (at_mark w [c] _ _ rfl)).mono ?_
  rintro e w' ⟨rfl, hn⟩
  rw [he]
  obtain ⟨x', h1, h2⟩ := hn.bel (hj.below bl) hg (Nat.le_trans hb bl.size)
  exact ⟨rfl, x', h1, (bl.mono hb).trans h2⟩

set_option maxRecDepth 100000 in
set_option maxHeartbeats 4000000 in
theorem awake_any (w : World) : Calls Try.prog 23 #[] w fun e w' => e = .returned (.bool true) ∧ Below w.heap.size w w' := by
  have kc := const_run
  go_enter Try.func23, Try.ntmps23
  go_wp2_with fail
  refine (new_any w).mono ?_
  rintro e w1 ⟨p, x1, rfl, h1, ht1, hr1, hb1⟩
  have s1 : Sole w.heap.size w1 p x1 Dsk.new := ⟨h1, ht1, fun k e => absurd e (hr1 k), Dsk.new_inv⟩
  clear h1 ht1 hr1
  obtain ⟨n0, n1, n2⟩ := op_none (d := Dsk.new) rfl rfl
  have ho1 := open_empty_no w.heap.size p x1 Dsk.new w1 0 2 0 0 [] s1 rfl n0.symm n1.symm n2.symm rfl rfl ps_new (by omega)
  clear n0 n1 n2
  go_wp2_with fail
  refine ho1.mono ?_
  rintro e w2 ⟨gj, sa, sc, v, x2, rfl, o2⟩
  obtain ⟨xs0, a0, hx0, ⟨a1', c1', hv, _, _, _⟩, _, _⟩ := o2.recs
  have hx0' : xs0 = [] := List.map_eq_nil_iff.1 hx0
  subst hx0'
  rw [show 0 - skipOf (Dsk.new.cur 0) 0 [] = 0 from rfl] at hv
  subst hv
  have j2 : JIs w.heap.size w2 gj p x2 J0 := o2.jr
  have b2 : Below w.heap.size w w2 := hb1.trans (o2.kp.below s1.turn hb1.size)
  have zj : w.heap.size ≤ gj := Nat.le_trans hb1.size o2.fresh
  clear o2 hx0 ho1 s1
  go_wp2_with fail
  refine (app7 w.heap.size gj p x2 J0 J1 97 97 1 w2 j2 b2.size zj few.1 rfl a1.1 (by rw [a1.2]; rfl) rfl).mono ?_
  rintro e w3 ⟨rfl, x3, j3, d3⟩
  have b3 := b2.trans d3
  clear j2 d3
  go_wp2_with fail
  refine (app7 w.heap.size gj p x3 J1 J2 98 98 2 w3 j3 b3.size zj few.2.1 rfl a2.1 (by rw [a2.2]; rfl) rfl).mono ?_
  rintro e w4 ⟨rfl, x4, j4, d4⟩
  have b4 := b3.trans d4
  clear j3 d4
  have hsy := sync_j w.heap.size gj p x4 J2 w4 j4 b4.size few.2.2.1
  rw [a3] at hsy
  go_wp2_with fail
  refine hsy.mono ?_
  rintro e w5 ⟨rfl, j5⟩
  obtain ⟨x5, j5, d5'⟩ := j5.bel j4 zj b4.size
  have b5 := b4.trans d5'
  clear j4 d5' hsy
  go_wp2_with fail
  refine (app7 w.heap.size gj p x5 J3 J4 99 99 3 w5 j5 b5.size zj few.2.2.2.1 rfl a4.1 (by rw [a4.2]; rfl) rfl).mono ?_
  rintro e w6 ⟨rfl, x6, j6, d6'⟩
  have b6 := b5.trans d6'
  clear j5 d6'
  go_wp2_with fail
  refine (crash_sole w.heap.size p x6 J4.d D5 0 5 0 w6 j6.disk b6.size few.2.2.2.2.1 cr5 rfl).mono ?_
  rintro e w7 ⟨rfl, x7, s7, g7, k7⟩
  have b7 : Below w.heap.size w w7 := b6.trans (k7.below j6.disk.turn b6.size)
  clear j6 g7 k7
  obtain ⟨n0, n1, n2⟩ := op_none d5.2.1 d5.2.2.1
  have ho2 := open_good_ok w.heap.size p x7 D5 w7 0 2 0 41 2 36 1 2 [] D6 s7 b7.size few.2.2.2.2.2 d5.2.2.2 n0.symm n1.symm n2.symm rfl d5len (by rw [ps5]; rfl) stop5.symm (by omega) (by omega) (fun h => by simp only [ps5, List.getElem_cons_zero]; rw [h50.num (by omega)]) (fun h => by simp only [ps5]; show 2 = numAt (D5.cur 0) 18; rw [h51.num (by omega)]) (by omega) (by omega) (by omega) rfl cs5
  clear n0 n1 n2
  go_wp2_with fail
  refine ho2.mono ?_
  rintro e w8 ⟨g2, sb, sc2, v2, x8, rfl, o8⟩
  obtain ⟨xs, ax, hxp, ⟨a2', c2', hv, _, hcat, _⟩, hok, _⟩ := o8.recs
  rw [ps5] at hxp
  obtain ⟨y0, ys, rfl, e0, hxp⟩ := List.map_eq_cons_iff.1 hxp
  obtain ⟨y1, zs, rfl, e1, hxp⟩ := List.map_eq_cons_iff.1 hxp
  have hz := List.map_eq_nil_iff.1 hxp
  subst hz
  have hsk : skipOf (D5.cur 0) 0 [y0, y1] = 0 := by
    unfold skipOf
    rw [if_pos (by rw [e0, h50.num (by omega)]; omega)]
  rw [hsk] at hv hcat
  subst hv
  rw [List.drop_zero] at hcat
  have hra := rx_rat hok hcat
  have r0 : RX.rm (D5.cur 0) y0 = ⟨1, 7, [97], y0.a, y0.c⟩ := by unfold RX.rm; rw [e0, h50.num (by omega), h50.kind, h50.body_at (by simp)]; rfl
  have r1 : RX.rm (D5.cur 0) y1 = ⟨2, 7, [98], y1.a, y1.c⟩ := by unfold RX.rm; rw [e1, h51.num (by omega), h51.kind, h51.body_at (by simp)]; rfl
  rw [List.map_cons, List.map_cons, List.map_nil, r0, r1] at hra
  have b8 : Below w.heap.size w w8 := b7.trans (o8.kp.below s7.turn b7.size)
  have jr8 := o8.jr
  clear o8 ho2 hok hcat r0 r1 e0 e1 hsk s7
  have hrd := read_sole w.heap.size p x8 D6 0 0 _ 36 w8 jr8.disk d6.1 rfl d6.2
  go_wp2_with fail
  refine hrd.mono ?_
  rintro e w9 ⟨qa, qc, rfl, qo, b9⟩
  have hB9 := jr8.blk.below b9
  have hra9 := hra.below b9
  have b9' := bnext b8 b9
  clear hrd jr8 hra b9 b8 qo
  have hla : Calls Try.prog 16 #[.pointer (some ⟨g2, 0, none⟩)] w9 fun e w' => e = .returned (.int .i64 2) ∧ w' = w9 := last_blk g2 _ _ _ _ _ w9 hB9
  go_wp2_with fail
  refine hla.mono ?_
  rintro e w10 ⟨rfl, rfl⟩
  have kc2 := const_run (w10.alloc (.cells #[.int .u8 97] 5 (1, 2))) #[.int .u8 98] 1 1
  rw [World.size_alloc] at kc2
  go_wp2_with fail
  clear kc kc2
  have q1 := at_mark w10 [97] #[.int .u8 97] (1, 2) rfl
  have q2 := at_mark (w10.alloc (.cells #[.int .u8 97] 5 (1, 2))) [98] #[.int .u8 98] (1, 2) rfl
  have c1 := below_lit w10 (.cells #[.int .u8 97] 5 (1, 2))
  have c2 := below_lit (w10.alloc (.cells #[.int .u8 97] 5 (1, 2))) (.cells #[.int .u8 98] 5 (1, 2))
  rw [World.size_alloc] at q2
  have c3 := below_lit ((w10.alloc (.cells #[.int .u8 97] 5 (1, 2))).alloc (.cells #[.int .u8 98] 5 (1, 2))) (.cells #[.int .i64 1, .int .u8 7, .slice (some ⟨w10.heap.size, 0, none⟩) 1 1, .int .i64 2, .int .u8 7, .slice (some ⟨w10.heap.size + 1, 0, none⟩) 1 1] 27)
  have q3 := cat_here ((w10.alloc (.cells #[.int .u8 97] 5 (1, 2))).alloc (.cells #[.int .u8 98] 5 (1, 2))) (([⟨1, 7, [97], some ⟨w10.heap.size, 0, none⟩, 1⟩, ⟨2, 7, [98], some ⟨w10.heap.size + 1, 0, none⟩, 1⟩] : List Rm).flatMap Rm.cells) #[.int .i64 1, .int .u8 7, .slice (some ⟨w10.heap.size, 0, none⟩) 1 1, .int .i64 2, .int .u8 7, .slice (some ⟨w10.heap.size + 1, 0, none⟩) 1 1] 27 (0, 0) rfl (w10.heap.size + 2) (by rw [World.size_alloc, World.size_alloc])
  have bt := bnext (bnext (bnext b9' c1) c2) c3
  have f1 := ((hra9.below c1).below c2).below c3
  have f2 : RAt (((w10.alloc (.cells #[.int .u8 97] 5 (1, 2))).alloc (.cells #[.int .u8 98] 5 (1, 2))).alloc (.cells #[.int .i64 1, .int .u8 7, .slice (some ⟨w10.heap.size, 0, none⟩) 1 1, .int .i64 2, .int .u8 7, .slice (some ⟨w10.heap.size + 1, 0, none⟩) 1 1] 27)) (some ⟨w10.heap.size + 2, 0, none⟩) [⟨1, 7, [97], some ⟨w10.heap.size, 0, none⟩, 1⟩, ⟨2, 7, [98], some ⟨w10.heap.size + 1, 0, none⟩, 1⟩] := by
    refine ⟨q3, fun i hi => ?_⟩
    simp only [List.mem_cons, List.not_mem_nil, or_false] at hi
    rcases hi with rfl | rfl
    · exact (q1.below c2).below c3
    · exact q2.below c3
  refine (samer_any _ _ 2 2 _ _ _ _ _ rfl rfl (by omega) f1 f2 rfl).mono ?_
  rintro e w11 ⟨rfl, b11⟩
  go_wp2
  go_ret
  exact ⟨rfl, bnext bt b11⟩
end Go.Proofs.Ytcbgnodmamcmkaa
