/- What does makes of both disks. -/
import Derived.Test.YtpngnmogjmdmhaaRefOver
namespace Go.Proofs.Ytpngnmogjmdmhaa
open Go.RowKit
set_option linter.unusedVariables false

def DPost (base : Nat) (w : World) (p : Nat) (x : Dx) (T : Nat → Prop) (D : Dsk) (e : Ending) (w' : World) : Prop := ∃ (x' : Dx) (y' : RDx), e = .returned (.tuple #[.agg (y'.cells D), .bool true]) ∧ Sole base w' p x' D ∧ Grow w p x x' ∧ RD w' (fun k => T k ∨ Turn p x' k) y' D ∧ Kp (Turn p x) w w'
abbrev DT (T : Nat → Prop) (p : Nat) (x' : Dx) (g6 : Nat) : Nat → Prop := fun k => (T k ∨ Turn p x' k) ∨ k = g6

theorem Sole.kp {S : Nat → Prop} {base : Nat} {w w' : World} {p : Nat} {x : Dx} {d : Dsk} (h : Sole base w p x d) (hk : Kp S w w') (ht : ∀ k, Turn p x k → ¬ S k) (hr : ∀ k, Reads x k → ¬ S k) : Sole base w' p x d := ⟨⟨h.is.1.kp hk ht hr, h.is.2⟩, h.turn, h.reads, h.inv⟩
theorem row_k {S : Nat → Prop} {w w' : World} {g : Nat} {o : Obj} (h : w.heap[g]? = some o) (hk : Kp S w w') (hn : ¬ S g) : w'.heap[g]? = some o := by
  rw [hk.block g (Array.getElem?_eq_some_iff.1 h).1 hn]; exact h

section
variable {base : Nat} {w W0 w1 w2 W3 : World} {p : Nat} {x x' : Dx} {T : Nat → Prop} {y y' : RDx} {d D : Dsk} {g6 : Nat}
theorem does_rd (hs : Sole base w p x d) (hrd : RD w T y d) (hT : ∀ k, Turn p x k → T k) (b0 : Below w.heap.size w W0) (hg6 : w.heap.size ≤ g6) (hg : Grow W0 p x x') (hk : Kp (Turn p x) W0 w1) : RD w1 (DT T p x' g6) y d :=
  ((hrd.turn (T' := DT T p x' g6) (fun k h => by
    rcases h with (h | h) | h
    · exact .inl h
    · rcases hg.1 k h with h2 | h2
      · exact .inl (hT k h2)
      · exact .inr (Nat.le_trans b0.size h2)
    · right; omega)).below b0).kp (hk.more (fun k e => .inl (.inl (hT k e))))
theorem does_lt (hTb : ∀ k, T k → k < w.heap.size) (b0 : Below w.heap.size w W0) (hg6 : g6 < W0.heap.size) (hk : Kp (Turn p x) W0 w1) (hs1 : Sole base w1 p x' D) : ∀ k, DT T p x' g6 k → k < w1.heap.size := fun k h => by
  have h1 := hk.size
  have h2 := b0.size
  rcases h with (h | h) | h
  · have := hTb k h; omega
  · exact hs1.is.1.turn_lt k h
  · omega
theorem does_end (hs : Sole base w p x d) (b0 : Below w.heap.size w W0) (hg6 : w.heap.size ≤ g6) (hg6b : g6 < W0.heap.size) (hg : Grow W0 p x x') (hk : Kp (Turn p x) W0 w1) (hs1 : Sole base w1 p x' D) (b2 : Below w1.heap.size w1 w2) (hrd : RD w2 (DT T p x' g6) y' D) (b3 : Below w2.heap.size w2 W3) (cs : Array Value) :
    DPost base w p x T D (.returned (.tuple #[.agg (y'.cells D), .bool true])) (W3.setRow g6 cs) := by
  have kpS := kp_setRow (S := fun b => b = g6) (Kp.refl _ W3) rfl cs
  refine ⟨x', y', rfl, ((hs1.below b2).below b3).kp kpS (fun k h e => ?_) (fun k h e => ?_), ⟨fun k e => (hg.1 k e).imp id (fun h => Nat.le_trans b0.size h), fun k e => (hg.2 k e).imp id (fun h => Nat.le_trans b0.size h)⟩, ((hrd.below b3).kp (kpS.more (fun k e => .inr e))).turn (fun k h => .inl (.inl h)), ?_⟩
  · rcases hg.1 k h with h2 | h2
    · have := hs.is.1.turn_lt k h2; omega
    · omega
  · rcases hg.2 k h with h2 | h2
    · have := hs.is.1.reads_lt k h2; omega
    · omega
  · have k1 : Kp (Turn p x) w W3 := (((Kp.of_below b0).trans hk).trans (Kp.of_below b2)).trans (Kp.of_below b3)
    exact ⟨kpS.os.trans k1.os, kpS.tape.trans k1.tape, kpS.output.trans k1.output, Nat.le_trans k1.size kpS.size, fun k hk' hn => (kpS.block k (Nat.lt_of_lt_of_le hk' k1.size) (fun e => by omega)).trans (k1.block k hk' hn)⟩
end

theorem rarmed_rd (T : Nat → Prop) (x : RDx) (d : Dsk) (n : Int) (w : World) (hd : RD w T x d) :
    Calls Try.prog 47 #[.agg (x.cells d), .int .i64 n] w fun e w' => ∃ x' : RDx, e = .returned (.tuple #[.agg (x'.cells (d.armD n)), .int .i64 (Dsk.armE n)]) ∧ RD w' T x' (d.armD n) ∧ Below w.heap.size w w' := by
  refine (rarmed_any x d n w).mono ?_
  rintro e w' ⟨rfl, hb⟩
  exact ⟨x, rfl, (hd.below hb).like (by unfold Dsk.armD; split <;> rfl) (by unfold Dsk.armD; split <;> rfl), hb⟩
theorem rfailing_rd (T : Nat → Prop) (x : RDx) (d : Dsk) (n ec : Int) (w : World) (hd : RD w T x d) :
    Calls Try.prog 48 #[.agg (x.cells d), .int .i64 n, .int .i64 ec] w fun e w' => ∃ x' : RDx, e = .returned (.tuple #[.agg (x'.cells (d.failD n ec)), .int .i64 (Dsk.failE n ec)]) ∧ RD w' T x' (d.failD n ec) ∧ Below w.heap.size w w' := by
  refine (rfailing_any x d n ec w).mono ?_
  rintro e w' ⟨rfl, hb⟩
  exact ⟨x, rfl, (hd.below hb).like (by unfold Dsk.failD; split <;> rfl) (by unfold Dsk.failD; split <;> rfl), hb⟩

set_option maxRecDepth 100000 in
set_option maxHeartbeats 4000000 in
theorem does_cut (base p : Nat) (x : Dx) (T : Nat → Prop) (y : RDx) (d : Dsk) (on f n ec tn : Int) (ba : Option Addr) (bn bc : Nat) (w : World) (hs : Sole base w p x d) (hbase : base ≤ w.heap.size) (hrd : RD w T y d) (hT : ∀ k, Turn p x k → T k) (hTb : ∀ k, T k → k < w.heap.size) (hn : d.ops.length ≤ 1000000) (hnb : n ≤ 9223372036854775807) (htb : tn ≤ 9223372036854775807) :
    Calls Try.prog 22 #[.pointer (some ⟨p, 0, none⟩), .agg (y.cells d), .agg #[.int .i64 2, .int .i64 on, .int .i64 f, .slice ba bn bc, .int .i64 n, .int .i64 ec, .int .i64 tn]] w (DPost base w p x T (d.cutD f n)) := by
  obtain ⟨W0, hW0⟩ : ∃ W0, W0 = (((w.alloc (.cells (y.cells d) 40)).alloc (.cells #[.int .i64 2, .int .i64 on, .int .i64 f, .slice ba bn bc, .int .i64 n, .int .i64 ec, .int .i64 tn] 44)).alloc (.cells #[.slice none 0 0, .slice none 0 0, .slice none 0 0, .slice none 0 0, .bool false, .int .i64 0, .int .i64 0, .int .i64 0] 40)) := ⟨_, rfl⟩
  have b1 := below_lit w (.cells (y.cells d) 40)
  have b2 := below_lit (w.alloc (.cells (y.cells d) 40)) (.cells #[.int .i64 2, .int .i64 on, .int .i64 f, .slice ba bn bc, .int .i64 n, .int .i64 ec, .int .i64 tn] 44)
  have b3 := below_lit ((w.alloc (.cells (y.cells d) 40)).alloc (.cells #[.int .i64 2, .int .i64 on, .int .i64 f, .slice ba bn bc, .int .i64 n, .int .i64 ec, .int .i64 tn] 44)) (.cells #[.slice none 0 0, .slice none 0 0, .slice none 0 0, .slice none 0 0, .bool false, .int .i64 0, .int .i64 0, .int .i64 0] 40)
  have z1 : (w.alloc (.cells (y.cells d) 40)).heap.size = w.heap.size + 1 := size_lit _ _
  have z2 : ((w.alloc (.cells (y.cells d) 40)).alloc (.cells #[.int .i64 2, .int .i64 on, .int .i64 f, .slice ba bn bc, .int .i64 n, .int .i64 ec, .int .i64 tn] 44)).heap.size = w.heap.size + 1 + 1 := by rw [size_lit, z1]
  have bl : Below w.heap.size w W0 := by rw [hW0]; exact bnext (bnext b1 b2) b3
  have r0 : W0.heap[w.heap.size]? = some (.cells (y.cells d) 40 (0, 0)) := by rw [hW0]; exact row_b (row_b (heap_alloc_new w _) b2) b3
  have rI : W0.heap[w.heap.size + 1]? = some (.cells #[.int .i64 2, .int .i64 on, .int .i64 f, .slice ba bn bc, .int .i64 n, .int .i64 ec, .int .i64 tn] 44 (0, 0)) := by rw [hW0, ← z1]; exact row_b (heap_alloc_new _ _) b3
  have r6 : W0.heap[w.heap.size + 1 + 1]? = some (.cells #[.slice none 0 0, .slice none 0 0, .slice none 0 0, .slice none 0 0, .bool false, .int .i64 0, .int .i64 0, .int .i64 0] 40 (0, 0)) := by rw [hW0, ← z2]; exact heap_alloc_new _ _
  have hz : w.heap.size + 1 + 1 < W0.heap.size := (Array.getElem?_eq_some_iff.1 r6).1
  clear b1 b2 b3 z1 z2
  have hnt : ∀ g, w.heap.size ≤ g → ¬ Turn p x g := fun g hg h => by have := hs.is.1.turn_lt g h; omega
  have hs0 := hs.below bl
  replace hrd := hid hrd
  replace hT := hid hT
  replace hTb := hid hTb
  replace hnt := hid hnt
  replace hs := hid hs
  replace r0 := hid r0
  replace r6 := hid r6
  have y2 := row_cell rI 2 (.int .i64 f) rfl
  have y4 := row_cell rI 4 (.int .i64 n) rfl
  have kP := cut_sole base p x d _ f n _ W0 hs0 (Nat.le_trans hbase bl.size) hn rfl rfl
  have u0 := row_cell rI 0 (.int .i64 2) rfl
  rw [hW0] at u0
  replace hs0 := hid hs0
  have rI' := hid rI
  replace rI := hid rI
  go_enter Try.func22, Try.ntmps22
  go_upto_region 10 with fail
  rw [← hW0]
  replace hW0 := hid hW0
  clear u0
  go_wp2_with fail
  refine kP.mono ?_
  clear kP
  rintro e w1 ⟨rfl, x', hs1, hg1, hk1⟩
  have q0 := row_k r0.out hk1 (hnt.out _ (Nat.le_refl _))
  have qI := row_k rI'.out hk1 (hnt.out _ (by omega))
  have q6 := row_k r6.out hk1 (hnt.out _ (by omega))
  clear y2 y4
  have y2 := row_cell qI 2 (.int .i64 f) rfl
  have y4 := row_cell qI 4 (.int .i64 n) rfl
  have hrd1 := does_rd (g6 := w.heap.size + 1 + 1) hs.out hrd.out hT.out bl (by omega) hg1 hk1
  have hlt1 := does_lt (g6 := w.heap.size + 1 + 1) hTb.out bl hz hk1 hs1
  have kR := rcut_any _ y d f n w1 hrd1 hs.out.inv hlt1 hn
  replace q0 := hid q0
  replace q6 := hid q6
  replace qI := hid qI
  replace hrd1 := hid hrd1
  replace hlt1 := hid hlt1
  go_wp2_with (refine wpList_load_row rfl 40 (.tmp 4) rfl w.heap.size rfl 40 (y.cells d) (0, 0) _ q0.out Try.underlying40 rfl info40c ?_)
  refine kR.mono ?_
  clear kR
  rintro e w2 ⟨y', rfl, hrd2, hb2⟩
  have bz := below_lit w2 (.cells #[.slice none 0 0, .slice none 0 0, .slice none 0 0, .slice none 0 0, .bool false, .int .i64 0, .int .i64 0, .int .i64 0] 40)
  have hzn : Hid ((w2.alloc (.cells #[.slice none 0 0, .slice none 0 0, .slice none 0 0, .slice none 0 0, .bool false, .int .i64 0, .int .i64 0, .int .i64 0] 40)).heap[w2.heap.size]? = some (.cells #[.slice none 0 0, .slice none 0 0, .slice none 0 0, .slice none 0 0, .bool false, .int .i64 0, .int .i64 0, .int .i64 0] 40 (0, 0))) := hid (heap_alloc_new _ _)
  obtain ⟨W3, hW3⟩ : ∃ W3, W3 = (w2.alloc (.cells #[.slice none 0 0, .slice none 0 0, .slice none 0 0, .slice none 0 0, .bool false, .int .i64 0, .int .i64 0, .int .i64 0] 40)).setRow w2.heap.size (y'.cells (d.cutD f n)) := ⟨_, rfl⟩
  have b3 : Below w2.heap.size w2 W3 := by rw [hW3]; exact below_setRow bz (Nat.le_refl _) _
  have t3 : W3.heap[w2.heap.size]? = some (.cells (y'.cells (d.cutD f n)) 40 (0, 0)) := by rw [hW3]; exact setRow_heap _ _ _ _ _ _ (heap_alloc_new _ _)
  have t6 := row_b (row_b q6.out hb2) b3
  have hend := does_end (T := T) hs.out bl (by omega) hz hg1 hk1 hs1 hb2 hrd2 b3 (y'.cells (d.cutD f n))
  have t3u := t3
  have t6u := t6
  rw [hW3] at t3u t6u
  replace hrd2 := hid hrd2
  replace t3 := hid t3
  replace t6 := hid t6
  replace t3u := hid t3u
  replace t6u := hid t6u
  replace hend := hid hend
  replace hs1 := hid hs1
  replace hk1 := hid hk1
  replace hg1 := hid hg1
  rw [hW3] at hend
  go_wp2_with (first
    | (refine wpList_store_row rfl 40 (.tmp 14) (.tmp 85) rfl w2.heap.size (y'.cells (d.cutD f n)) rfl rfl 40 _ hzn.out info40c rfl (cells_all _ _) ?_)
    | (refine wpList_load_row rfl 40 (.tmp 14) rfl w2.heap.size rfl 40 (y'.cells (d.cutD f n)) (0, 0) _ t3u.out Try.underlying40 rfl info40c ?_)
    | (refine wpList_store_row rfl 40 (.tmp 6) (.tmp 87) rfl (w.heap.size + 1 + 1) (y'.cells (d.cutD f n)) rfl rfl 40 _ t6u.out info40c rfl (cells_all _ _) ?_))
  (try simp only [Exit.inBlock, Exit.then])
  refine bodyPost_ret (results_row_tmp rfl _ _ (w.heap.size + 1 + 1) _ _ rfl (setRow_heap _ _ _ _ _ _ t6u.out) rfl rfl) rfl ?_
  exact hend.out

set_option maxRecDepth 100000 in
set_option maxHeartbeats 4000000 in
theorem does_sync (base p : Nat) (x : Dx) (T : Nat → Prop) (y : RDx) (d : Dsk) (on f n ec tn : Int) (ba : Option Addr) (bn bc : Nat) (w : World) (hs : Sole base w p x d) (hbase : base ≤ w.heap.size) (hrd : RD w T y d) (hT : ∀ k, Turn p x k → T k) (hTb : ∀ k, T k → k < w.heap.size) (hn : d.ops.length ≤ 1000000) (hnb : n ≤ 9223372036854775807) (htb : tn ≤ 9223372036854775807) :
    Calls Try.prog 22 #[.pointer (some ⟨p, 0, none⟩), .agg (y.cells d), .agg #[.int .i64 3, .int .i64 on, .int .i64 f, .slice ba bn bc, .int .i64 n, .int .i64 ec, .int .i64 tn]] w (DPost base w p x T (d.syncD)) := by
  obtain ⟨W0, hW0⟩ : ∃ W0, W0 = (((w.alloc (.cells (y.cells d) 40)).alloc (.cells #[.int .i64 3, .int .i64 on, .int .i64 f, .slice ba bn bc, .int .i64 n, .int .i64 ec, .int .i64 tn] 44)).alloc (.cells #[.slice none 0 0, .slice none 0 0, .slice none 0 0, .slice none 0 0, .bool false, .int .i64 0, .int .i64 0, .int .i64 0] 40)) := ⟨_, rfl⟩
  have b1 := below_lit w (.cells (y.cells d) 40)
  have b2 := below_lit (w.alloc (.cells (y.cells d) 40)) (.cells #[.int .i64 3, .int .i64 on, .int .i64 f, .slice ba bn bc, .int .i64 n, .int .i64 ec, .int .i64 tn] 44)
  have b3 := below_lit ((w.alloc (.cells (y.cells d) 40)).alloc (.cells #[.int .i64 3, .int .i64 on, .int .i64 f, .slice ba bn bc, .int .i64 n, .int .i64 ec, .int .i64 tn] 44)) (.cells #[.slice none 0 0, .slice none 0 0, .slice none 0 0, .slice none 0 0, .bool false, .int .i64 0, .int .i64 0, .int .i64 0] 40)
  have z1 : (w.alloc (.cells (y.cells d) 40)).heap.size = w.heap.size + 1 := size_lit _ _
  have z2 : ((w.alloc (.cells (y.cells d) 40)).alloc (.cells #[.int .i64 3, .int .i64 on, .int .i64 f, .slice ba bn bc, .int .i64 n, .int .i64 ec, .int .i64 tn] 44)).heap.size = w.heap.size + 1 + 1 := by rw [size_lit, z1]
  have bl : Below w.heap.size w W0 := by rw [hW0]; exact bnext (bnext b1 b2) b3
  have r0 : W0.heap[w.heap.size]? = some (.cells (y.cells d) 40 (0, 0)) := by rw [hW0]; exact row_b (row_b (heap_alloc_new w _) b2) b3
  have rI : W0.heap[w.heap.size + 1]? = some (.cells #[.int .i64 3, .int .i64 on, .int .i64 f, .slice ba bn bc, .int .i64 n, .int .i64 ec, .int .i64 tn] 44 (0, 0)) := by rw [hW0, ← z1]; exact row_b (heap_alloc_new _ _) b3
  have r6 : W0.heap[w.heap.size + 1 + 1]? = some (.cells #[.slice none 0 0, .slice none 0 0, .slice none 0 0, .slice none 0 0, .bool false, .int .i64 0, .int .i64 0, .int .i64 0] 40 (0, 0)) := by rw [hW0, ← z2]; exact heap_alloc_new _ _
  have hz : w.heap.size + 1 + 1 < W0.heap.size := (Array.getElem?_eq_some_iff.1 r6).1
  clear b1 b2 b3 z1 z2
  have hnt : ∀ g, w.heap.size ≤ g → ¬ Turn p x g := fun g hg h => by have := hs.is.1.turn_lt g h; omega
  have hs0 := hs.below bl
  replace hrd := hid hrd
  replace hT := hid hT
  replace hTb := hid hTb
  replace hnt := hid hnt
  replace hs := hid hs
  replace r0 := hid r0
  replace r6 := hid r6
  have kP := sync_sole base p x d _ _ W0 hs0 (Nat.le_trans hbase bl.size) hn rfl rfl
  have u0 := row_cell rI 0 (.int .i64 3) rfl
  rw [hW0] at u0
  replace hs0 := hid hs0
  have rI' := hid rI
  replace rI := hid rI
  go_enter Try.func22, Try.ntmps22
  go_upto_region 14 with fail
  rw [← hW0]
  replace hW0 := hid hW0
  clear u0
  go_wp2_with fail
  refine kP.mono ?_
  clear kP
  rintro e w1 ⟨rfl, x', hs1, hg1, hk1⟩
  have q0 := row_k r0.out hk1 (hnt.out _ (Nat.le_refl _))
  have qI := row_k rI'.out hk1 (hnt.out _ (by omega))
  have q6 := row_k r6.out hk1 (hnt.out _ (by omega))
  have hrd1 := does_rd (g6 := w.heap.size + 1 + 1) hs.out hrd.out hT.out bl (by omega) hg1 hk1
  have hlt1 := does_lt (g6 := w.heap.size + 1 + 1) hTb.out bl hz hk1 hs1
  have kR := rsync_any _ y d w1 hrd1 hs.out.inv hlt1 hn
  replace q0 := hid q0
  replace q6 := hid q6
  replace qI := hid qI
  replace hrd1 := hid hrd1
  replace hlt1 := hid hlt1
  go_wp2_with (refine wpList_load_row rfl 40 (.tmp 4) rfl w.heap.size rfl 40 (y.cells d) (0, 0) _ q0.out Try.underlying40 rfl info40c ?_)
  refine kR.mono ?_
  clear kR
  rintro e w2 ⟨y', rfl, hrd2, hb2⟩
  have bz := below_lit w2 (.cells #[.slice none 0 0, .slice none 0 0, .slice none 0 0, .slice none 0 0, .bool false, .int .i64 0, .int .i64 0, .int .i64 0] 40)
  have hzn : Hid ((w2.alloc (.cells #[.slice none 0 0, .slice none 0 0, .slice none 0 0, .slice none 0 0, .bool false, .int .i64 0, .int .i64 0, .int .i64 0] 40)).heap[w2.heap.size]? = some (.cells #[.slice none 0 0, .slice none 0 0, .slice none 0 0, .slice none 0 0, .bool false, .int .i64 0, .int .i64 0, .int .i64 0] 40 (0, 0))) := hid (heap_alloc_new _ _)
  obtain ⟨W3, hW3⟩ : ∃ W3, W3 = (w2.alloc (.cells #[.slice none 0 0, .slice none 0 0, .slice none 0 0, .slice none 0 0, .bool false, .int .i64 0, .int .i64 0, .int .i64 0] 40)).setRow w2.heap.size (y'.cells (d.syncD)) := ⟨_, rfl⟩
  have b3 : Below w2.heap.size w2 W3 := by rw [hW3]; exact below_setRow bz (Nat.le_refl _) _
  have t3 : W3.heap[w2.heap.size]? = some (.cells (y'.cells (d.syncD)) 40 (0, 0)) := by rw [hW3]; exact setRow_heap _ _ _ _ _ _ (heap_alloc_new _ _)
  have t6 := row_b (row_b q6.out hb2) b3
  have hend := does_end (T := T) hs.out bl (by omega) hz hg1 hk1 hs1 hb2 hrd2 b3 (y'.cells (d.syncD))
  have t3u := t3
  have t6u := t6
  rw [hW3] at t3u t6u
  replace hrd2 := hid hrd2
  replace t3 := hid t3
  replace t6 := hid t6
  replace t3u := hid t3u
  replace t6u := hid t6u
  replace hend := hid hend
  replace hs1 := hid hs1
  replace hk1 := hid hk1
  replace hg1 := hid hg1
  rw [hW3] at hend
  go_wp2_with (first
    | (refine wpList_store_row rfl 40 (.tmp 17) (.tmp 98) rfl w2.heap.size (y'.cells (d.syncD)) rfl rfl 40 _ hzn.out info40c rfl (cells_all _ _) ?_)
    | (refine wpList_load_row rfl 40 (.tmp 17) rfl w2.heap.size rfl 40 (y'.cells (d.syncD)) (0, 0) _ t3u.out Try.underlying40 rfl info40c ?_)
    | (refine wpList_store_row rfl 40 (.tmp 6) (.tmp 100) rfl (w.heap.size + 1 + 1) (y'.cells (d.syncD)) rfl rfl 40 _ t6u.out info40c rfl (cells_all _ _) ?_))
  (try simp only [Exit.inBlock, Exit.then])
  refine bodyPost_ret (results_row_tmp rfl _ _ (w.heap.size + 1 + 1) _ _ rfl (setRow_heap _ _ _ _ _ _ t6u.out) rfl rfl) rfl ?_
  exact hend.out

set_option maxRecDepth 100000 in
set_option maxHeartbeats 4000000 in
theorem does_arm (base p : Nat) (x : Dx) (T : Nat → Prop) (y : RDx) (d : Dsk) (on f n ec tn : Int) (ba : Option Addr) (bn bc : Nat) (w : World) (hs : Sole base w p x d) (hbase : base ≤ w.heap.size) (hrd : RD w T y d) (hT : ∀ k, Turn p x k → T k) (hTb : ∀ k, T k → k < w.heap.size) (hn : d.ops.length ≤ 1000000) (hnb : n ≤ 9223372036854775807) (htb : tn ≤ 9223372036854775807) :
    Calls Try.prog 22 #[.pointer (some ⟨p, 0, none⟩), .agg (y.cells d), .agg #[.int .i64 5, .int .i64 on, .int .i64 f, .slice ba bn bc, .int .i64 n, .int .i64 ec, .int .i64 tn]] w (DPost base w p x T (d.armD n)) := by
  obtain ⟨W0, hW0⟩ : ∃ W0, W0 = (((w.alloc (.cells (y.cells d) 40)).alloc (.cells #[.int .i64 5, .int .i64 on, .int .i64 f, .slice ba bn bc, .int .i64 n, .int .i64 ec, .int .i64 tn] 44)).alloc (.cells #[.slice none 0 0, .slice none 0 0, .slice none 0 0, .slice none 0 0, .bool false, .int .i64 0, .int .i64 0, .int .i64 0] 40)) := ⟨_, rfl⟩
  have b1 := below_lit w (.cells (y.cells d) 40)
  have b2 := below_lit (w.alloc (.cells (y.cells d) 40)) (.cells #[.int .i64 5, .int .i64 on, .int .i64 f, .slice ba bn bc, .int .i64 n, .int .i64 ec, .int .i64 tn] 44)
  have b3 := below_lit ((w.alloc (.cells (y.cells d) 40)).alloc (.cells #[.int .i64 5, .int .i64 on, .int .i64 f, .slice ba bn bc, .int .i64 n, .int .i64 ec, .int .i64 tn] 44)) (.cells #[.slice none 0 0, .slice none 0 0, .slice none 0 0, .slice none 0 0, .bool false, .int .i64 0, .int .i64 0, .int .i64 0] 40)
  have z1 : (w.alloc (.cells (y.cells d) 40)).heap.size = w.heap.size + 1 := size_lit _ _
  have z2 : ((w.alloc (.cells (y.cells d) 40)).alloc (.cells #[.int .i64 5, .int .i64 on, .int .i64 f, .slice ba bn bc, .int .i64 n, .int .i64 ec, .int .i64 tn] 44)).heap.size = w.heap.size + 1 + 1 := by rw [size_lit, z1]
  have bl : Below w.heap.size w W0 := by rw [hW0]; exact bnext (bnext b1 b2) b3
  have r0 : W0.heap[w.heap.size]? = some (.cells (y.cells d) 40 (0, 0)) := by rw [hW0]; exact row_b (row_b (heap_alloc_new w _) b2) b3
  have rI : W0.heap[w.heap.size + 1]? = some (.cells #[.int .i64 5, .int .i64 on, .int .i64 f, .slice ba bn bc, .int .i64 n, .int .i64 ec, .int .i64 tn] 44 (0, 0)) := by rw [hW0, ← z1]; exact row_b (heap_alloc_new _ _) b3
  have r6 : W0.heap[w.heap.size + 1 + 1]? = some (.cells #[.slice none 0 0, .slice none 0 0, .slice none 0 0, .slice none 0 0, .bool false, .int .i64 0, .int .i64 0, .int .i64 0] 40 (0, 0)) := by rw [hW0, ← z2]; exact heap_alloc_new _ _
  have hz : w.heap.size + 1 + 1 < W0.heap.size := (Array.getElem?_eq_some_iff.1 r6).1
  clear b1 b2 b3 z1 z2
  have hnt : ∀ g, w.heap.size ≤ g → ¬ Turn p x g := fun g hg h => by have := hs.is.1.turn_lt g h; omega
  have hs0 := hs.below bl
  replace hrd := hid hrd
  replace hT := hid hT
  replace hTb := hid hTb
  replace hnt := hid hnt
  replace hs := hid hs
  replace r0 := hid r0
  replace r6 := hid r6
  have y4 := row_cell rI 4 (.int .i64 n) rfl
  have kP := arm_sole base p x d _ n _ W0 hs0 (Nat.le_trans hbase bl.size) hnb rfl rfl
  have u0 := row_cell rI 0 (.int .i64 5) rfl
  rw [hW0] at u0
  replace hs0 := hid hs0
  have rI' := hid rI
  replace rI := hid rI
  go_enter Try.func22, Try.ntmps22
  go_upto_region 24 with fail
  rw [← hW0]
  replace hW0 := hid hW0
  clear u0
  go_wp2_with fail
  refine kP.mono ?_
  clear kP
  rintro e w1 ⟨rfl, x', hs1, hg1, hk1⟩
  have q0 := row_k r0.out hk1 (hnt.out _ (Nat.le_refl _))
  have qI := row_k rI'.out hk1 (hnt.out _ (by omega))
  have q6 := row_k r6.out hk1 (hnt.out _ (by omega))
  clear y4
  have y4 := row_cell qI 4 (.int .i64 n) rfl
  have hrd1 := does_rd (g6 := w.heap.size + 1 + 1) hs.out hrd.out hT.out bl (by omega) hg1 hk1
  have hlt1 := does_lt (g6 := w.heap.size + 1 + 1) hTb.out bl hz hk1 hs1
  have kR := rarmed_rd _ y d n w1 hrd1
  replace q0 := hid q0
  replace q6 := hid q6
  replace qI := hid qI
  replace hrd1 := hid hrd1
  replace hlt1 := hid hlt1
  go_wp2_with (refine wpList_load_row rfl 40 (.tmp 4) rfl w.heap.size rfl 40 (y.cells d) (0, 0) _ q0.out Try.underlying40 rfl info40c ?_)
  refine kR.mono ?_
  clear kR
  rintro e w2 ⟨y', rfl, hrd2, hb2⟩
  have bz := below_lit w2 (.cells #[.slice none 0 0, .slice none 0 0, .slice none 0 0, .slice none 0 0, .bool false, .int .i64 0, .int .i64 0, .int .i64 0] 40)
  have hzn : Hid ((w2.alloc (.cells #[.slice none 0 0, .slice none 0 0, .slice none 0 0, .slice none 0 0, .bool false, .int .i64 0, .int .i64 0, .int .i64 0] 40)).heap[w2.heap.size]? = some (.cells #[.slice none 0 0, .slice none 0 0, .slice none 0 0, .slice none 0 0, .bool false, .int .i64 0, .int .i64 0, .int .i64 0] 40 (0, 0))) := hid (heap_alloc_new _ _)
  obtain ⟨W3, hW3⟩ : ∃ W3, W3 = (w2.alloc (.cells #[.slice none 0 0, .slice none 0 0, .slice none 0 0, .slice none 0 0, .bool false, .int .i64 0, .int .i64 0, .int .i64 0] 40)).setRow w2.heap.size (y'.cells (d.armD n)) := ⟨_, rfl⟩
  have b3 : Below w2.heap.size w2 W3 := by rw [hW3]; exact below_setRow bz (Nat.le_refl _) _
  have t3 : W3.heap[w2.heap.size]? = some (.cells (y'.cells (d.armD n)) 40 (0, 0)) := by rw [hW3]; exact setRow_heap _ _ _ _ _ _ (heap_alloc_new _ _)
  have t6 := row_b (row_b q6.out hb2) b3
  have hend := does_end (T := T) hs.out bl (by omega) hz hg1 hk1 hs1 hb2 hrd2 b3 (y'.cells (d.armD n))
  have t3u := t3
  have t6u := t6
  rw [hW3] at t3u t6u
  replace hrd2 := hid hrd2
  replace t3 := hid t3
  replace t6 := hid t6
  replace t3u := hid t3u
  replace t6u := hid t6u
  replace hend := hid hend
  replace hs1 := hid hs1
  replace hk1 := hid hk1
  replace hg1 := hid hg1
  rw [hW3] at hend
  go_wp2_with (first
    | (refine wpList_store_row rfl 40 (.tmp 28) (.tmp 164) rfl w2.heap.size (y'.cells (d.armD n)) rfl rfl 40 _ hzn.out info40c rfl (cells_all _ _) ?_)
    | (refine wpList_load_row rfl 40 (.tmp 28) rfl w2.heap.size rfl 40 (y'.cells (d.armD n)) (0, 0) _ t3u.out Try.underlying40 rfl info40c ?_)
    | (refine wpList_store_row rfl 40 (.tmp 6) (.tmp 166) rfl (w.heap.size + 1 + 1) (y'.cells (d.armD n)) rfl rfl 40 _ t6u.out info40c rfl (cells_all _ _) ?_))
  (try simp only [Exit.inBlock, Exit.then])
  refine bodyPost_ret (results_row_tmp rfl _ _ (w.heap.size + 1 + 1) _ _ rfl (setRow_heap _ _ _ _ _ _ t6u.out) rfl rfl) rfl ?_
  exact hend.out

set_option maxRecDepth 100000 in
set_option maxHeartbeats 4000000 in
theorem does_fail (base p : Nat) (x : Dx) (T : Nat → Prop) (y : RDx) (d : Dsk) (on f n ec tn : Int) (ba : Option Addr) (bn bc : Nat) (w : World) (hs : Sole base w p x d) (hbase : base ≤ w.heap.size) (hrd : RD w T y d) (hT : ∀ k, Turn p x k → T k) (hTb : ∀ k, T k → k < w.heap.size) (hn : d.ops.length ≤ 1000000) (hnb : n ≤ 9223372036854775807) (htb : tn ≤ 9223372036854775807) :
    Calls Try.prog 22 #[.pointer (some ⟨p, 0, none⟩), .agg (y.cells d), .agg #[.int .i64 6, .int .i64 on, .int .i64 f, .slice ba bn bc, .int .i64 n, .int .i64 ec, .int .i64 tn]] w (DPost base w p x T (d.failD n ec)) := by
  obtain ⟨W0, hW0⟩ : ∃ W0, W0 = (((w.alloc (.cells (y.cells d) 40)).alloc (.cells #[.int .i64 6, .int .i64 on, .int .i64 f, .slice ba bn bc, .int .i64 n, .int .i64 ec, .int .i64 tn] 44)).alloc (.cells #[.slice none 0 0, .slice none 0 0, .slice none 0 0, .slice none 0 0, .bool false, .int .i64 0, .int .i64 0, .int .i64 0] 40)) := ⟨_, rfl⟩
  have b1 := below_lit w (.cells (y.cells d) 40)
  have b2 := below_lit (w.alloc (.cells (y.cells d) 40)) (.cells #[.int .i64 6, .int .i64 on, .int .i64 f, .slice ba bn bc, .int .i64 n, .int .i64 ec, .int .i64 tn] 44)
  have b3 := below_lit ((w.alloc (.cells (y.cells d) 40)).alloc (.cells #[.int .i64 6, .int .i64 on, .int .i64 f, .slice ba bn bc, .int .i64 n, .int .i64 ec, .int .i64 tn] 44)) (.cells #[.slice none 0 0, .slice none 0 0, .slice none 0 0, .slice none 0 0, .bool false, .int .i64 0, .int .i64 0, .int .i64 0] 40)
  have z1 : (w.alloc (.cells (y.cells d) 40)).heap.size = w.heap.size + 1 := size_lit _ _
  have z2 : ((w.alloc (.cells (y.cells d) 40)).alloc (.cells #[.int .i64 6, .int .i64 on, .int .i64 f, .slice ba bn bc, .int .i64 n, .int .i64 ec, .int .i64 tn] 44)).heap.size = w.heap.size + 1 + 1 := by rw [size_lit, z1]
  have bl : Below w.heap.size w W0 := by rw [hW0]; exact bnext (bnext b1 b2) b3
  have r0 : W0.heap[w.heap.size]? = some (.cells (y.cells d) 40 (0, 0)) := by rw [hW0]; exact row_b (row_b (heap_alloc_new w _) b2) b3
  have rI : W0.heap[w.heap.size + 1]? = some (.cells #[.int .i64 6, .int .i64 on, .int .i64 f, .slice ba bn bc, .int .i64 n, .int .i64 ec, .int .i64 tn] 44 (0, 0)) := by rw [hW0, ← z1]; exact row_b (heap_alloc_new _ _) b3
  have r6 : W0.heap[w.heap.size + 1 + 1]? = some (.cells #[.slice none 0 0, .slice none 0 0, .slice none 0 0, .slice none 0 0, .bool false, .int .i64 0, .int .i64 0, .int .i64 0] 40 (0, 0)) := by rw [hW0, ← z2]; exact heap_alloc_new _ _
  have hz : w.heap.size + 1 + 1 < W0.heap.size := (Array.getElem?_eq_some_iff.1 r6).1
  clear b1 b2 b3 z1 z2
  have hnt : ∀ g, w.heap.size ≤ g → ¬ Turn p x g := fun g hg h => by have := hs.is.1.turn_lt g h; omega
  have hs0 := hs.below bl
  replace hrd := hid hrd
  replace hT := hid hT
  replace hTb := hid hTb
  replace hnt := hid hnt
  replace hs := hid hs
  replace r0 := hid r0
  replace r6 := hid r6
  have y4 := row_cell rI 4 (.int .i64 n) rfl
  have y5 := row_cell rI 5 (.int .i64 ec) rfl
  have kP := fail_sole base p x d _ n ec _ W0 hs0 (Nat.le_trans hbase bl.size) hnb rfl rfl
  have u0 := row_cell rI 0 (.int .i64 6) rfl
  rw [hW0] at u0
  replace hs0 := hid hs0
  have rI' := hid rI
  replace rI := hid rI
  go_enter Try.func22, Try.ntmps22
  go_upto_region 28 with fail
  rw [← hW0]
  replace hW0 := hid hW0
  clear u0
  go_wp2_with fail
  refine kP.mono ?_
  clear kP
  rintro e w1 ⟨rfl, x', hs1, hg1, hk1⟩
  have q0 := row_k r0.out hk1 (hnt.out _ (Nat.le_refl _))
  have qI := row_k rI'.out hk1 (hnt.out _ (by omega))
  have q6 := row_k r6.out hk1 (hnt.out _ (by omega))
  clear y4 y5
  have y4 := row_cell qI 4 (.int .i64 n) rfl
  have y5 := row_cell qI 5 (.int .i64 ec) rfl
  have hrd1 := does_rd (g6 := w.heap.size + 1 + 1) hs.out hrd.out hT.out bl (by omega) hg1 hk1
  have hlt1 := does_lt (g6 := w.heap.size + 1 + 1) hTb.out bl hz hk1 hs1
  have kR := rfailing_rd _ y d n ec w1 hrd1
  replace q0 := hid q0
  replace q6 := hid q6
  replace qI := hid qI
  replace hrd1 := hid hrd1
  replace hlt1 := hid hlt1
  go_wp2_with (refine wpList_load_row rfl 40 (.tmp 4) rfl w.heap.size rfl 40 (y.cells d) (0, 0) _ q0.out Try.underlying40 rfl info40c ?_)
  refine kR.mono ?_
  clear kR
  rintro e w2 ⟨y', rfl, hrd2, hb2⟩
  have bz := below_lit w2 (.cells #[.slice none 0 0, .slice none 0 0, .slice none 0 0, .slice none 0 0, .bool false, .int .i64 0, .int .i64 0, .int .i64 0] 40)
  have hzn : Hid ((w2.alloc (.cells #[.slice none 0 0, .slice none 0 0, .slice none 0 0, .slice none 0 0, .bool false, .int .i64 0, .int .i64 0, .int .i64 0] 40)).heap[w2.heap.size]? = some (.cells #[.slice none 0 0, .slice none 0 0, .slice none 0 0, .slice none 0 0, .bool false, .int .i64 0, .int .i64 0, .int .i64 0] 40 (0, 0))) := hid (heap_alloc_new _ _)
  obtain ⟨W3, hW3⟩ : ∃ W3, W3 = (w2.alloc (.cells #[.slice none 0 0, .slice none 0 0, .slice none 0 0, .slice none 0 0, .bool false, .int .i64 0, .int .i64 0, .int .i64 0] 40)).setRow w2.heap.size (y'.cells (d.failD n ec)) := ⟨_, rfl⟩
  have b3 : Below w2.heap.size w2 W3 := by rw [hW3]; exact below_setRow bz (Nat.le_refl _) _
  have t3 : W3.heap[w2.heap.size]? = some (.cells (y'.cells (d.failD n ec)) 40 (0, 0)) := by rw [hW3]; exact setRow_heap _ _ _ _ _ _ (heap_alloc_new _ _)
  have t6 := row_b (row_b q6.out hb2) b3
  have hend := does_end (T := T) hs.out bl (by omega) hz hg1 hk1 hs1 hb2 hrd2 b3 (y'.cells (d.failD n ec))
  have t3u := t3
  have t6u := t6
  rw [hW3] at t3u t6u
  replace hrd2 := hid hrd2
  replace t3 := hid t3
  replace t6 := hid t6
  replace t3u := hid t3u
  replace t6u := hid t6u
  replace hend := hid hend
  replace hs1 := hid hs1
  replace hk1 := hid hk1
  replace hg1 := hid hg1
  rw [hW3] at hend
  go_wp2_with (first
    | (refine wpList_store_row rfl 40 (.tmp 31) (.tmp 185) rfl w2.heap.size (y'.cells (d.failD n ec)) rfl rfl 40 _ hzn.out info40c rfl (cells_all _ _) ?_)
    | (refine wpList_load_row rfl 40 (.tmp 31) rfl w2.heap.size rfl 40 (y'.cells (d.failD n ec)) (0, 0) _ t3u.out Try.underlying40 rfl info40c ?_)
    | (refine wpList_store_row rfl 40 (.tmp 6) (.tmp 187) rfl (w.heap.size + 1 + 1) (y'.cells (d.failD n ec)) rfl rfl 40 _ t6u.out info40c rfl (cells_all _ _) ?_))
  (try simp only [Exit.inBlock, Exit.then])
  refine bodyPost_ret (results_row_tmp rfl _ _ (w.heap.size + 1 + 1) _ _ rfl (setRow_heap _ _ _ _ _ _ t6u.out) rfl rfl) rfl ?_
  exact hend.out

set_option maxRecDepth 100000 in
set_option maxHeartbeats 4000000 in
theorem does_crash (base p : Nat) (x : Dx) (T : Nat → Prop) (y : RDx) (d : Dsk) (on f n ec tn : Int) (ba : Option Addr) (bn bc : Nat) (w : World) (hs : Sole base w p x d) (hbase : base ≤ w.heap.size) (hrd : RD w T y d) (hT : ∀ k, Turn p x k → T k) (hTb : ∀ k, T k → k < w.heap.size) (hn : d.ops.length ≤ 1000000) (hnb : n ≤ 9223372036854775807) (htb : tn ≤ 9223372036854775807) :
    Calls Try.prog 22 #[.pointer (some ⟨p, 0, none⟩), .agg (y.cells d), .agg #[.int .i64 7, .int .i64 on, .int .i64 f, .slice ba bn bc, .int .i64 n, .int .i64 ec, .int .i64 tn]] w (DPost base w p x T (d.crashD n tn)) := by
  obtain ⟨W0, hW0⟩ : ∃ W0, W0 = (((w.alloc (.cells (y.cells d) 40)).alloc (.cells #[.int .i64 7, .int .i64 on, .int .i64 f, .slice ba bn bc, .int .i64 n, .int .i64 ec, .int .i64 tn] 44)).alloc (.cells #[.slice none 0 0, .slice none 0 0, .slice none 0 0, .slice none 0 0, .bool false, .int .i64 0, .int .i64 0, .int .i64 0] 40)) := ⟨_, rfl⟩
  have b1 := below_lit w (.cells (y.cells d) 40)
  have b2 := below_lit (w.alloc (.cells (y.cells d) 40)) (.cells #[.int .i64 7, .int .i64 on, .int .i64 f, .slice ba bn bc, .int .i64 n, .int .i64 ec, .int .i64 tn] 44)
  have b3 := below_lit ((w.alloc (.cells (y.cells d) 40)).alloc (.cells #[.int .i64 7, .int .i64 on, .int .i64 f, .slice ba bn bc, .int .i64 n, .int .i64 ec, .int .i64 tn] 44)) (.cells #[.slice none 0 0, .slice none 0 0, .slice none 0 0, .slice none 0 0, .bool false, .int .i64 0, .int .i64 0, .int .i64 0] 40)
  have z1 : (w.alloc (.cells (y.cells d) 40)).heap.size = w.heap.size + 1 := size_lit _ _
  have z2 : ((w.alloc (.cells (y.cells d) 40)).alloc (.cells #[.int .i64 7, .int .i64 on, .int .i64 f, .slice ba bn bc, .int .i64 n, .int .i64 ec, .int .i64 tn] 44)).heap.size = w.heap.size + 1 + 1 := by rw [size_lit, z1]
  have bl : Below w.heap.size w W0 := by rw [hW0]; exact bnext (bnext b1 b2) b3
  have r0 : W0.heap[w.heap.size]? = some (.cells (y.cells d) 40 (0, 0)) := by rw [hW0]; exact row_b (row_b (heap_alloc_new w _) b2) b3
  have rI : W0.heap[w.heap.size + 1]? = some (.cells #[.int .i64 7, .int .i64 on, .int .i64 f, .slice ba bn bc, .int .i64 n, .int .i64 ec, .int .i64 tn] 44 (0, 0)) := by rw [hW0, ← z1]; exact row_b (heap_alloc_new _ _) b3
  have r6 : W0.heap[w.heap.size + 1 + 1]? = some (.cells #[.slice none 0 0, .slice none 0 0, .slice none 0 0, .slice none 0 0, .bool false, .int .i64 0, .int .i64 0, .int .i64 0] 40 (0, 0)) := by rw [hW0, ← z2]; exact heap_alloc_new _ _
  have hz : w.heap.size + 1 + 1 < W0.heap.size := (Array.getElem?_eq_some_iff.1 r6).1
  clear b1 b2 b3 z1 z2
  have hnt : ∀ g, w.heap.size ≤ g → ¬ Turn p x g := fun g hg h => by have := hs.is.1.turn_lt g h; omega
  have hs0 := hs.below bl
  replace hrd := hid hrd
  replace hT := hid hT
  replace hTb := hid hTb
  replace hnt := hid hnt
  replace hs := hid hs
  replace r0 := hid r0
  replace r6 := hid r6
  have y4 := row_cell rI 4 (.int .i64 n) rfl
  have y6 := row_cell rI 6 (.int .i64 tn) rfl
  have kP := crash_sole base p x d _ n tn _ W0 hs0 (Nat.le_trans hbase bl.size) hn rfl rfl
  have u0 := row_cell rI 0 (.int .i64 7) rfl
  rw [hW0] at u0
  replace hs0 := hid hs0
  have rI' := hid rI
  replace rI := hid rI
  go_enter Try.func22, Try.ntmps22
  go_upto_region 32 with fail
  rw [← hW0]
  replace hW0 := hid hW0
  clear u0
  go_wp2_with fail
  refine kP.mono ?_
  clear kP
  rintro e w1 ⟨rfl, x', hs1, hg1, hk1⟩
  have q0 := row_k r0.out hk1 (hnt.out _ (Nat.le_refl _))
  have qI := row_k rI'.out hk1 (hnt.out _ (by omega))
  have q6 := row_k r6.out hk1 (hnt.out _ (by omega))
  clear y4 y6
  have y4 := row_cell qI 4 (.int .i64 n) rfl
  have y6 := row_cell qI 6 (.int .i64 tn) rfl
  have hrd1 := does_rd (g6 := w.heap.size + 1 + 1) hs.out hrd.out hT.out bl (by omega) hg1 hk1
  have hlt1 := does_lt (g6 := w.heap.size + 1 + 1) hTb.out bl hz hk1 hs1
  have kR := rcrash_any _ y d n tn w1 hrd1 hs.out.inv hlt1 hn hnb htb
  replace q0 := hid q0
  replace q6 := hid q6
  replace qI := hid qI
  replace hrd1 := hid hrd1
  replace hlt1 := hid hlt1
  go_wp2_with (refine wpList_load_row rfl 40 (.tmp 4) rfl w.heap.size rfl 40 (y.cells d) (0, 0) _ q0.out Try.underlying40 rfl info40c ?_)
  refine kR.mono ?_
  clear kR
  rintro e w2 ⟨y', rfl, hrd2, hb2⟩
  have bz := below_lit w2 (.cells #[.slice none 0 0, .slice none 0 0, .slice none 0 0, .slice none 0 0, .bool false, .int .i64 0, .int .i64 0, .int .i64 0] 40)
  have hzn : Hid ((w2.alloc (.cells #[.slice none 0 0, .slice none 0 0, .slice none 0 0, .slice none 0 0, .bool false, .int .i64 0, .int .i64 0, .int .i64 0] 40)).heap[w2.heap.size]? = some (.cells #[.slice none 0 0, .slice none 0 0, .slice none 0 0, .slice none 0 0, .bool false, .int .i64 0, .int .i64 0, .int .i64 0] 40 (0, 0))) := hid (heap_alloc_new _ _)
  obtain ⟨W3, hW3⟩ : ∃ W3, W3 = (w2.alloc (.cells #[.slice none 0 0, .slice none 0 0, .slice none 0 0, .slice none 0 0, .bool false, .int .i64 0, .int .i64 0, .int .i64 0] 40)).setRow w2.heap.size (y'.cells (d.crashD n tn)) := ⟨_, rfl⟩
  have b3 : Below w2.heap.size w2 W3 := by rw [hW3]; exact below_setRow bz (Nat.le_refl _) _
  have t3 : W3.heap[w2.heap.size]? = some (.cells (y'.cells (d.crashD n tn)) 40 (0, 0)) := by rw [hW3]; exact setRow_heap _ _ _ _ _ _ (heap_alloc_new _ _)
  have t6 := row_b (row_b q6.out hb2) b3
  have hend := does_end (T := T) hs.out bl (by omega) hz hg1 hk1 hs1 hb2 hrd2 b3 (y'.cells (d.crashD n tn))
  have t3u := t3
  have t6u := t6
  rw [hW3] at t3u t6u
  replace hrd2 := hid hrd2
  replace t3 := hid t3
  replace t6 := hid t6
  replace t3u := hid t3u
  replace t6u := hid t6u
  replace hend := hid hend
  replace hs1 := hid hs1
  replace hk1 := hid hk1
  replace hg1 := hid hg1
  rw [hW3] at hend
  go_wp2_with (first
    | (refine wpList_store_row rfl 40 (.tmp 34) (.tmp 206) rfl w2.heap.size (y'.cells (d.crashD n tn)) rfl rfl 40 _ hzn.out info40c rfl (cells_all _ _) ?_)
    | (refine wpList_load_row rfl 40 (.tmp 34) rfl w2.heap.size rfl 40 (y'.cells (d.crashD n tn)) (0, 0) _ t3u.out Try.underlying40 rfl info40c ?_)
    | (refine wpList_store_row rfl 40 (.tmp 6) (.tmp 208) rfl (w.heap.size + 1 + 1) (y'.cells (d.crashD n tn)) rfl rfl 40 _ t6u.out info40c rfl (cells_all _ _) ?_))
  (try simp only [Exit.inBlock, Exit.then])
  refine bodyPost_ret (results_row_tmp rfl _ _ (w.heap.size + 1 + 1) _ _ rfl (setRow_heap _ _ _ _ _ _ t6u.out) rfl rfl) rfl ?_
  exact hend.out

end Go.Proofs.Ytpngnmogjmdmhaa
