/- does, of a kind that is none; does, of an append. -/
import Derived.Test.YtpngnmogjmdmhaaDoes
namespace Go.Proofs.Ytpngnmogjmdmhaa
open Go.RowKit
set_option linter.unusedVariables false

section
variable {base : Nat} {w W0 w1 w2 W3 w5 : World} {p : Nat} {x x' : Dx} {T : Nat → Prop} {y y' : RDx} {d D : Dsk} {g6 gi : Nat}
theorem does_rd2 (hs : Sole base w p x d) (hrd : RD w T y d) (hT : ∀ k, Turn p x k → T k) (b0 : Below w.heap.size w W0) (hg6 : w.heap.size ≤ g6) (hgi : w.heap.size ≤ gi) (hg : Grow W0 p x x') (hk : Kp (Turn p x) W0 w1) : RD w1 (fun k => DT T p x' g6 k ∨ k = gi) y d :=
  ((hrd.turn (T' := fun k => DT T p x' g6 k ∨ k = gi) (fun k h => by
    rcases h with ((h | h) | h) | h
    · exact .inl h
    · rcases hg.1 k h with h2 | h2
      · exact .inl (hT k h2)
      · exact .inr (Nat.le_trans b0.size h2)
    · right; omega
    · right; omega)).below b0).kp (hk.more (fun k e => .inl (.inl (.inl (hT k e)))))
theorem does_end2 (hs : Sole base w p x d) (b0 : Below w.heap.size w W0) (hg6 : w.heap.size ≤ g6) (hg6b : g6 < W0.heap.size) (hgi : w.heap.size ≤ gi) (hgib : gi < W0.heap.size) (hg : Grow W0 p x x') (hk : Kp (Turn p x) W0 w1) (hs1 : Sole base w1 p x' D) (b2 : Below w1.heap.size w1 w2) (hrd : RD w2 (fun k => DT T p x' g6 k ∨ k = gi) y' D) (b3 : Below w2.heap.size w2 W3) (kpi : Kp (fun k => k = gi) W3 w5) (cs : Array Value) :
    DPost base w p x T D (.returned (.tuple #[.agg (y'.cells D), .bool true])) (w5.setRow g6 cs) := by
  have kpS := kp_setRow (S := fun b => b = g6) (Kp.refl _ w5) rfl cs
  have kpB : Kp (fun b => b = g6 ∨ b = gi) W3 (w5.setRow g6 cs) := (kpi.more (fun k e => .inr e)).trans (kpS.more (fun k e => .inl e))
  refine ⟨x', y', rfl, ((hs1.below b2).below b3).kp kpB (fun k h e => ?_) (fun k h e => ?_), ⟨fun k e => (hg.1 k e).imp id (fun h => Nat.le_trans b0.size h), fun k e => (hg.2 k e).imp id (fun h => Nat.le_trans b0.size h)⟩, ((hrd.below b3).kp (kpB.more (fun k e => e.elim (fun h => .inl (.inr h)) .inr))).turn (fun k h => .inl (.inl (.inl h))), ?_⟩
  · rcases hg.1 k h with h2 | h2
    · have := hs.is.1.turn_lt k h2; omega
    · omega
  · rcases hg.2 k h with h2 | h2
    · have := hs.is.1.reads_lt k h2; omega
    · omega
  · have k1 : Kp (Turn p x) w W3 := (((Kp.of_below b0).trans hk).trans (Kp.of_below b2)).trans (Kp.of_below b3)
    exact ⟨kpB.os.trans k1.os, kpB.tape.trans k1.tape, kpB.output.trans k1.output, Nat.le_trans k1.size kpB.size, fun k hk' hn => (kpB.block k (Nat.lt_of_lt_of_le hk' k1.size) (fun e => by omega)).trans (k1.block k hk' hn)⟩
end

set_option maxRecDepth 100000 in
set_option maxHeartbeats 4000000 in
theorem does_none (base p : Nat) (x : Dx) (T : Nat → Prop) (y : RDx) (d : Dsk) (kk : Int) (on f n ec tn : Int) (ba : Option Addr) (bn bc : Nat) (w : World) (hs : Sole base w p x d) (hbase : base ≤ w.heap.size) (hrd : RD w T y d) (hT : ∀ k, Turn p x k → T k) (hTb : ∀ k, T k → k < w.heap.size) (hn : d.ops.length ≤ 1000000) (hnb : n ≤ 9223372036854775807) (htb : tn ≤ 9223372036854775807) (hk1 : kk ≠ 1) (hk2 : kk ≠ 2) (hk3 : kk ≠ 3) (hk4 : kk ≠ 4) (hk5 : kk ≠ 5) (hk6 : kk ≠ 6) (hk7 : kk ≠ 7) :
    Calls Try.prog 22 #[.pointer (some ⟨p, 0, none⟩), .agg (y.cells d), .agg #[.int .i64 kk, .int .i64 on, .int .i64 f, .slice ba bn bc, .int .i64 n, .int .i64 ec, .int .i64 tn]] w (DPost base w p x T d) := by
  obtain ⟨W0, hW0⟩ : ∃ W0, W0 = (((w.alloc (.cells (y.cells d) 40)).alloc (.cells #[.int .i64 kk, .int .i64 on, .int .i64 f, .slice ba bn bc, .int .i64 n, .int .i64 ec, .int .i64 tn] 44)).alloc (.cells #[.slice none 0 0, .slice none 0 0, .slice none 0 0, .slice none 0 0, .bool false, .int .i64 0, .int .i64 0, .int .i64 0] 40)) := ⟨_, rfl⟩
  have b1 := below_lit w (.cells (y.cells d) 40)
  have b2 := below_lit (w.alloc (.cells (y.cells d) 40)) (.cells #[.int .i64 kk, .int .i64 on, .int .i64 f, .slice ba bn bc, .int .i64 n, .int .i64 ec, .int .i64 tn] 44)
  have b3 := below_lit ((w.alloc (.cells (y.cells d) 40)).alloc (.cells #[.int .i64 kk, .int .i64 on, .int .i64 f, .slice ba bn bc, .int .i64 n, .int .i64 ec, .int .i64 tn] 44)) (.cells #[.slice none 0 0, .slice none 0 0, .slice none 0 0, .slice none 0 0, .bool false, .int .i64 0, .int .i64 0, .int .i64 0] 40)
  have z1 : (w.alloc (.cells (y.cells d) 40)).heap.size = w.heap.size + 1 := size_lit _ _
  have z2 : ((w.alloc (.cells (y.cells d) 40)).alloc (.cells #[.int .i64 kk, .int .i64 on, .int .i64 f, .slice ba bn bc, .int .i64 n, .int .i64 ec, .int .i64 tn] 44)).heap.size = w.heap.size + 1 + 1 := by rw [size_lit, z1]
  have bl : Below w.heap.size w W0 := by rw [hW0]; exact bnext (bnext b1 b2) b3
  have r0 : W0.heap[w.heap.size]? = some (.cells (y.cells d) 40 (0, 0)) := by rw [hW0]; exact row_b (row_b (heap_alloc_new w _) b2) b3
  have rI : W0.heap[w.heap.size + 1]? = some (.cells #[.int .i64 kk, .int .i64 on, .int .i64 f, .slice ba bn bc, .int .i64 n, .int .i64 ec, .int .i64 tn] 44 (0, 0)) := by rw [hW0, ← z1]; exact row_b (heap_alloc_new _ _) b3
  have r6 : W0.heap[w.heap.size + 1 + 1]? = some (.cells #[.slice none 0 0, .slice none 0 0, .slice none 0 0, .slice none 0 0, .bool false, .int .i64 0, .int .i64 0, .int .i64 0] 40 (0, 0)) := by rw [hW0, ← z2]; exact heap_alloc_new _ _
  have hz : w.heap.size + 1 + 1 < W0.heap.size := (Array.getElem?_eq_some_iff.1 r6).1
  clear b1 b2 b3 z1 z2
  have hnt : ∀ g, w.heap.size ≤ g → ¬ Turn p x g := fun g hg h => by have := hs.is.1.turn_lt g h; omega
  have hs0 := hs.below bl
  replace hrd := hid hrd
  replace hT := hid hT
  replace hTb := hid hTb
  replace hnt := hid hnt
  replace hs := hid hs
  replace r0 := hid r0
  replace r6 := hid r6
  have u0 := row_cell rI 0 (.int .i64 kk) rfl
  rw [hW0] at u0
  have hend := does_end (T := T) (y' := y) hs.out bl (by omega) hz (Grow.refl W0 p x) (Kp.refl _ W0) hs0 (Below.refl _ W0) (does_rd (g6 := w.heap.size + 1 + 1) hs.out hrd.out hT.out bl (by omega) (Grow.refl W0 p x) (Kp.refl _ W0)) (Below.refl _ W0) (y.cells d)
  replace hs0 := hid hs0
  replace rI := hid rI
  replace hend := hid hend
  have k1 : (kk == 1) = false := beq_eq_false_iff_ne.2 hk1
  replace hk1 := hid hk1
  have k2 : (kk == 2) = false := beq_eq_false_iff_ne.2 hk2
  replace hk2 := hid hk2
  have k3 : (kk == 3) = false := beq_eq_false_iff_ne.2 hk3
  replace hk3 := hid hk3
  have k4 : (kk == 4) = false := beq_eq_false_iff_ne.2 hk4
  replace hk4 := hid hk4
  have k5 : (kk == 5) = false := beq_eq_false_iff_ne.2 hk5
  replace hk5 := hid hk5
  have k6 : (kk == 6) = false := beq_eq_false_iff_ne.2 hk6
  replace hk6 := hid hk6
  have k7 : (kk == 7) = false := beq_eq_false_iff_ne.2 hk7
  replace hk7 := hid hk7
  go_enter Try.func22, Try.ntmps22
  go_upto_region 35 with fail
  rw [← hW0]
  replace hW0 := hid hW0
  clear u0
  go_wp2_with (first
    | (refine wpList_load_row rfl 40 (.tmp 4) rfl w.heap.size rfl 40 (y.cells d) (0, 0) _ r0.out Try.underlying40 rfl info40c ?_)
    | (refine wpList_store_row rfl 40 (.tmp 6) (.tmp 212) rfl (w.heap.size + 1 + 1) (y.cells d) rfl rfl 40 _ r6.out info40c rfl (cells_all _ _) ?_))
  (try simp only [Exit.inBlock, Exit.then])
  refine bodyPost_ret (results_row_tmp rfl _ _ (w.heap.size + 1 + 1) _ _ rfl (setRow_heap _ _ _ _ _ _ r6.out) rfl rfl) rfl ?_
  exact hend.out

set_option maxRecDepth 100000 in
set_option maxHeartbeats 4000000 in
theorem does_app (base p : Nat) (x : Dx) (T : Nat → Prop) (y : RDx) (d : Dsk) (on f n ec tn : Int) (ba : Option Addr) (bn bc : Nat) (w : World) (hs : Sole base w p x d) (hbase : base ≤ w.heap.size) (hrd : RD w T y d) (hT : ∀ k, Turn p x k → T k) (hTb : ∀ k, T k → k < w.heap.size) (hn : d.ops.length ≤ 1000000) (hnb : n ≤ 9223372036854775807) (htb : tn ≤ 9223372036854775807) (b : List UInt8) (hbl : b.length = bn) (hbn : bn ≤ 2000) (hfb : FA w T ba bc b) :
    Calls Try.prog 22 #[.pointer (some ⟨p, 0, none⟩), .agg (y.cells d), .agg #[.int .i64 1, .int .i64 on, .int .i64 f, .slice ba bn bc, .int .i64 n, .int .i64 ec, .int .i64 tn]] w (DPost base w p x T (d.appD f b)) := by
  obtain ⟨W0, hW0⟩ : ∃ W0, W0 = (((w.alloc (.cells (y.cells d) 40)).alloc (.cells #[.int .i64 1, .int .i64 on, .int .i64 f, .slice ba bn bc, .int .i64 n, .int .i64 ec, .int .i64 tn] 44)).alloc (.cells #[.slice none 0 0, .slice none 0 0, .slice none 0 0, .slice none 0 0, .bool false, .int .i64 0, .int .i64 0, .int .i64 0] 40)) := ⟨_, rfl⟩
  have b1 := below_lit w (.cells (y.cells d) 40)
  have b2 := below_lit (w.alloc (.cells (y.cells d) 40)) (.cells #[.int .i64 1, .int .i64 on, .int .i64 f, .slice ba bn bc, .int .i64 n, .int .i64 ec, .int .i64 tn] 44)
  have b3 := below_lit ((w.alloc (.cells (y.cells d) 40)).alloc (.cells #[.int .i64 1, .int .i64 on, .int .i64 f, .slice ba bn bc, .int .i64 n, .int .i64 ec, .int .i64 tn] 44)) (.cells #[.slice none 0 0, .slice none 0 0, .slice none 0 0, .slice none 0 0, .bool false, .int .i64 0, .int .i64 0, .int .i64 0] 40)
  have z1 : (w.alloc (.cells (y.cells d) 40)).heap.size = w.heap.size + 1 := size_lit _ _
  have z2 : ((w.alloc (.cells (y.cells d) 40)).alloc (.cells #[.int .i64 1, .int .i64 on, .int .i64 f, .slice ba bn bc, .int .i64 n, .int .i64 ec, .int .i64 tn] 44)).heap.size = w.heap.size + 1 + 1 := by rw [size_lit, z1]
  have bl : Below w.heap.size w W0 := by rw [hW0]; exact bnext (bnext b1 b2) b3
  have r0 : W0.heap[w.heap.size]? = some (.cells (y.cells d) 40 (0, 0)) := by rw [hW0]; exact row_b (row_b (heap_alloc_new w _) b2) b3
  have rI : W0.heap[w.heap.size + 1]? = some (.cells #[.int .i64 1, .int .i64 on, .int .i64 f, .slice ba bn bc, .int .i64 n, .int .i64 ec, .int .i64 tn] 44 (0, 0)) := by rw [hW0, ← z1]; exact row_b (heap_alloc_new _ _) b3
  have r6 : W0.heap[w.heap.size + 1 + 1]? = some (.cells #[.slice none 0 0, .slice none 0 0, .slice none 0 0, .slice none 0 0, .bool false, .int .i64 0, .int .i64 0, .int .i64 0] 40 (0, 0)) := by rw [hW0, ← z2]; exact heap_alloc_new _ _
  have hz : w.heap.size + 1 + 1 < W0.heap.size := (Array.getElem?_eq_some_iff.1 r6).1
  clear b1 b2 b3 z1 z2
  have hnt : ∀ g, w.heap.size ≤ g → ¬ Turn p x g := fun g hg h => by have := hs.is.1.turn_lt g h; omega
  have hs0 := hs.below bl
  replace hrd := hid hrd
  replace hT := hid hT
  replace hTb := hid hTb
  replace hnt := hid hnt
  replace hs := hid hs
  replace r0 := hid r0
  replace r6 := hid r6
  have y2 := row_cell rI 2 (.int .i64 f) rfl
  have y3 := row_cell rI 3 (.slice ba bn bc) rfl
  have u0 := row_cell rI 0 (.int .i64 1) rfl
  rw [hW0] at u0
  have hat0 := hid (hfb.at_.below bl)
  have kL := lent_own ba bc bn b W0 hbl (by omega) hat0.out
  replace hs0 := hid hs0
  replace rI := hid rI
  replace hfb := hid hfb
  have hbl' := hid hbl
  replace hbl := hid hbl
  go_enter Try.func22, Try.ntmps22
  go_upto_region 3 with fail
  rw [← hW0]
  replace hW0 := hid hW0
  clear u0
  go_wp2_with fail
  refine kL.mono ?_
  clear kL
  rintro e wa ⟨gi, ci, rfl, hci, hgi, hoi, hba⟩
  have hgil : gi < wa.heap.size := (hoi.lt gi rfl).2
  have bla := bnext bl hba
  have hza : w.heap.size + 1 + 1 < wa.heap.size := Nat.lt_of_lt_of_le hz hba.size
  have hgw : w.heap.size ≤ gi := Nat.le_trans bl.size hgi
  have hati := hoi.at
  have hsa := hs0.out.below hba
  have kP := append_sole base p x d _ f _ (some ⟨gi, 0, none⟩) bn ci b wa hsa (Nat.le_trans hbase bla.size) hn hbl'.out (by omega) hati.head (fun ad e => by cases e; exact hnt.out gi hgw) rfl rfl
  have a0 := row_b r0.out hba
  have aI := row_b rI.out hba
  have a6 := row_b r6.out hba
  clear y2 y3
  have y2 := row_cell aI 2 (.int .i64 f) rfl
  have y3 := row_cell aI 3 (.slice ba bn bc) rfl
  replace hati := hid hati
  replace hoi := hid hoi
  replace a0 := hid a0
  replace aI := hid aI
  replace a6 := hid a6
  replace hsa := hid hsa
  go_wp2_with fail
  refine kP.mono ?_
  clear kP
  rintro e w1 ⟨rfl, x', hs1, hg1, hk1⟩
  have q0 := row_k a0.out hk1 (hnt.out _ (Nat.le_refl _))
  have qI := row_k aI.out hk1 (hnt.out _ (by omega))
  have q6 := row_k a6.out hk1 (hnt.out _ (by omega))
  clear y2 y3
  have y2 := row_cell qI 2 (.int .i64 f) rfl
  have y3 := row_cell qI 3 (.slice ba bn bc) rfl
  have hfb1 := (hfb.out.below bla).kp (hk1.more (fun k e => hT.out k e))
  have hrd1 := does_rd2 (g6 := w.heap.size + 1 + 1) (gi := gi) hs.out hrd.out hT.out bla (by omega) hgw hg1 hk1
  have hlt1 := does_lt (g6 := w.heap.size + 1 + 1) hTb.out bla hza hk1 hs1
  have kR := rappend_any _ y d f ba bn bc b w1 hrd1 hs.out.inv (fun k h => h.elim (hlt1 k) (fun e => by rw [e]; exact Nat.lt_of_lt_of_le hgil hk1.size)) hn hbl'.out (by omega) hfb1.at_
  have hoi1 : Own w1 0 (.slice (some ⟨gi, 0, none⟩) (bn + 3) ci) (b ++ [77, 78, 79]) := (World.ownsRow.lt hoi.out gi rfl) |> fun _ => owns_kp (hoi.out.le (Nat.zero_le _)) hk1 (fun k hk => by cases hk; exact hnt.out gi hgw)
  replace q0 := hid q0
  replace q6 := hid q6
  replace qI := hid qI
  replace hrd1 := hid hrd1
  replace hlt1 := hid hlt1
  replace hfb1 := hid hfb1
  replace hoi1 := hid hoi1
  go_wp2_with (refine wpList_load_row rfl 40 (.tmp 4) rfl w.heap.size rfl 40 (y.cells d) (0, 0) _ q0.out Try.underlying40 rfl info40c ?_)
  refine kR.mono ?_
  clear kR
  rintro e w2 ⟨y', rfl, hrd2, hb2⟩
  have bz := below_lit w2 (.cells #[.slice none 0 0, .slice none 0 0, .slice none 0 0, .slice none 0 0, .bool false, .int .i64 0, .int .i64 0, .int .i64 0] 40)
  have hzn : Hid ((w2.alloc (.cells #[.slice none 0 0, .slice none 0 0, .slice none 0 0, .slice none 0 0, .bool false, .int .i64 0, .int .i64 0, .int .i64 0] 40)).heap[w2.heap.size]? = some (.cells #[.slice none 0 0, .slice none 0 0, .slice none 0 0, .slice none 0 0, .bool false, .int .i64 0, .int .i64 0, .int .i64 0] 40 (0, 0))) := hid (heap_alloc_new _ _)
  obtain ⟨W3, hW3⟩ : ∃ W3, W3 = (w2.alloc (.cells #[.slice none 0 0, .slice none 0 0, .slice none 0 0, .slice none 0 0, .bool false, .int .i64 0, .int .i64 0, .int .i64 0] 40)).setRow w2.heap.size (y'.cells (d.appD f b)) := ⟨_, rfl⟩
  have b3 : Below w2.heap.size w2 W3 := by rw [hW3]; exact below_setRow bz (Nat.le_refl _) _
  have t3 : W3.heap[w2.heap.size]? = some (.cells (y'.cells (d.appD f b)) 40 (0, 0)) := by rw [hW3]; exact setRow_heap _ _ _ _ _ _ (heap_alloc_new _ _)
  have t6 := row_b (row_b q6.out hb2) b3
  have tI := row_b (row_b qI.out hb2) b3
  clear y2 y3
  have y3 := row_cell tI 3 (.slice ba bn bc) rfl
  have b23 := bnext hb2 b3
  have hoi3 : Own W3 0 (.slice (some ⟨gi, 0, none⟩) (bn + 3) ci) (b ++ [77, 78, 79]) := owns_kp hoi1.out (Kp.of_below (S := fun _ => False) b23) (fun _ _ h => h)
  have kK := kept_any gi ci bc bn ba b W3 hbl'.out (by omega) hci hoi3.at (hfb1.out.at_.below b23)
  have kV := over_any gi ci bn 0 (b ++ [77, 78, 79]) W3 (by omega) hci (by rw [List.length_append, hbl'.out]; rfl) hoi3
  have hne2 : w2.heap.size ≠ gi := by have := hk1.size; have := hb2.size; omega
  have hne6 : w.heap.size + 1 + 1 ≠ gi := by omega
  replace hrd2 := hid hrd2
  replace t3 := hid t3
  replace t6 := hid t6
  replace tI := hid tI
  replace hoi3 := hid hoi3
  go_upto_region 6 with (refine wpList_store_row rfl 40 (.tmp 10) (.tmp 55) rfl w2.heap.size (y'.cells (d.appD f b)) rfl rfl 40 _ hzn.out info40c rfl (cells_all _ _) ?_)
  rw [← hW3]
  replace hW3 := hid hW3
  go_wp2_with fail
  refine kK.mono ?_
  clear kK
  rintro e w4 ⟨rfl, hw4⟩
  subst hw4
  go_wp2_with fail
  refine kV.mono ?_
  clear kV
  rintro e w5 ⟨rfl, kpi⟩
  have s3 := row_k t3.out kpi hne2
  have s6 := row_k t6.out kpi hne6
  have hend := does_end2 (T := T) hs.out bla (by omega) hza hgw hgil hg1 hk1 hs1 hb2 hrd2.out b3 kpi (y'.cells (d.appD f b))
  replace s3 := hid s3
  replace s6 := hid s6
  replace hend := hid hend
  replace hs1 := hid hs1
  replace hk1 := hid hk1
  replace hg1 := hid hg1
  replace kpi := hid kpi
  clear y3
  go_wp2_with (first
    | (refine wpList_load_row rfl 40 (.tmp 10) rfl w2.heap.size rfl 40 (y'.cells (d.appD f b)) (0, 0) _ s3.out Try.underlying40 rfl info40c ?_)
    | (refine wpList_store_row rfl 40 (.tmp 6) (.tmp 68) rfl (w.heap.size + 1 + 1) (y'.cells (d.appD f b)) rfl rfl 40 _ s6.out info40c rfl (cells_all _ _) ?_))
  (try simp only [Exit.inBlock, Exit.then])
  refine bodyPost_ret (results_row_tmp rfl _ _ (w.heap.size + 1 + 1) _ _ rfl (setRow_heap _ _ _ _ _ _ s6.out) rfl rfl) rfl ?_
  exact hend.out

end Go.Proofs.Ytpngnmogjmdmhaa
