/- Sync of the document's disk; one more unsynced. -/
import Derived.Test.YtpngnmogjmdmhaaRefOps2
namespace Go.Proofs.Ytpngnmogjmdmhaa
open Go.RowKit
set_option linter.unusedVariables false

theorem RD.off {W W' : World} {T : Nat → Prop} {x : RDx} {d : Dsk} {g : Nat} (h : RD W T x d) (hg : W.heap.size ≤ g) (W1 : World) (hb : Below W.heap.size W W1) (hk : Kp (fun b => b = g) W1 W') : RD W' T x d :=
  (((h.turn (T' := fun b => T b ∨ b = g) (fun b hb => hb.elim .inl (fun e => .inr (by omega)))).below hb).kp (hk.more (fun k e => .inr e))).turn (fun b hb => .inl (.inl hb))
theorem FA.offg {W W' : World} {T : Nat → Prop} {a : Option Addr} {c : Nat} {l : List UInt8} {g : Nat} (h : FA W T a c l) (hg : W.heap.size ≤ g) (W1 : World) (hb : Below W.heap.size W W1) (hk : Kp (fun b => b = g) W1 W') : FA W' T a c l :=
  (((h.turn (T' := fun b => T b ∨ b = g) (fun b hb => hb.elim .inl (fun e => .inr (by omega)))).below hb).kp (hk.more (fun k e => .inr e))).turn (fun b hb => .inl (.inl hb))

set_option maxRecDepth 100000 in
set_option maxHeartbeats 2000000 in
theorem rsync_any (T : Nat → Prop) (x : RDx) (d : Dsk) (w : World) (hd : RD w T x d) (hi : d.Inv) (hT : ∀ k, T k → k < w.heap.size) (hn : d.ops.length ≤ 1000000) :
    Calls Try.prog 44 #[.agg (x.cells d)] w fun e w' => ∃ x' : RDx, e = .returned (.tuple #[.agg (x'.cells d.syncD), .int .i64 d.errs]) ∧ RD w' T x' d.syncD ∧ Below w.heap.size w w' := by
  obtain ⟨W0, hW0⟩ : ∃ W0, W0 = ((w.alloc (.cells (x.cells d) 40)).alloc (.cells #[.slice none 0 0, .slice none 0 0, .slice none 0 0, .slice none 0 0, .bool false, .int .i64 0, .int .i64 0, .int .i64 0] 40)) := ⟨_, rfl⟩
  have b1 := below_lit w (.cells (x.cells d) 40)
  have b2 := below_lit (w.alloc (.cells (x.cells d) 40)) (.cells #[.slice none 0 0, .slice none 0 0, .slice none 0 0, .slice none 0 0, .bool false, .int .i64 0, .int .i64 0, .int .i64 0] 40)
  have bl : Below w.heap.size w W0 := by rw [hW0]; exact bnext b1 b2
  have r0 : W0.heap[w.heap.size]? = some (.cells (x.cells d) 40 (0, 0)) := by rw [hW0]; exact row_b (heap_alloc_new w _) b2
  have r1 : W0.heap[w.heap.size + 1]? = some (.cells #[.slice none 0 0, .slice none 0 0, .slice none 0 0, .slice none 0 0, .bool false, .int .i64 0, .int .i64 0, .int .i64 0] 40 (0, 0)) := by rw [hW0, ← size_lit w (.cells (x.cells d) 40)]; exact heap_alloc_new _ _
  have hz : w.heap.size + 1 < W0.heap.size := (Array.getElem?_eq_some_iff.1 r1).1
  clear b1 b2
  have kO := operation_any x d W0 hi
  replace r0 := hid r0
  replace r1 := hid r1
  replace hd := hid hd
  go_enter Try.func44, Try.ntmps44
  go_upto_region 1 with fail
  rw [← hW0]
  replace hW0 := hid hW0
  go_wp2_with (refine wpList_load_row rfl 40 (.tmp 1) rfl w.heap.size rfl 40 (x.cells d) (0, 0) _ r0.out Try.underlying40 rfl info40c ?_)
  refine kO.mono ?_
  clear kO
  rintro e w1 ⟨rfl, hb1⟩
  have hz1 : w.heap.size + 1 < w1.heap.size := Nat.lt_of_lt_of_le hz hb1.size
  obtain ⟨W2, hW2⟩ : ∃ W2, W2 = (w1.alloc (.cells #[.slice none 0 0, .slice none 0 0, .slice none 0 0, .slice none 0 0, .bool false, .int .i64 0, .int .i64 0, .int .i64 0] 40)).setRow w1.heap.size (x.cells d.went) := ⟨_, rfl⟩
  have bz := below_lit w1 (.cells #[.slice none 0 0, .slice none 0 0, .slice none 0 0, .slice none 0 0, .bool false, .int .i64 0, .int .i64 0, .int .i64 0] 40)
  have b2 : Below w1.heap.size w1 W2 := by rw [hW2]; exact below_setRow bz (Nat.le_refl _) _
  have r4 : W2.heap[w1.heap.size]? = some (.cells (x.cells d.went) 40 (0, 0)) := by rw [hW2]; exact setRow_heap _ _ _ _ _ _ (heap_alloc_new _ _)
  have hB := bnext (bnext bl hb1) b2
  have q0 := row_b (row_b r0.out hb1) b2
  have q1 := row_b (row_b r1.out hb1) b2
  replace r4 := hid r4
  replace q0 := hid q0
  replace q1 := hid q1
  have hzn : Hid ((w1.alloc (.cells #[.slice none 0 0, .slice none 0 0, .slice none 0 0, .slice none 0 0, .bool false, .int .i64 0, .int .i64 0, .int .i64 0] 40)).heap[w1.heap.size]? = some (.cells #[.slice none 0 0, .slice none 0 0, .slice none 0 0, .slice none 0 0, .bool false, .int .i64 0, .int .i64 0, .int .i64 0] 40 (0, 0))) := hid (heap_alloc_new _ _)
  go_upto_if 12 with (refine wpList_store_row rfl 40 (.tmp 4) (.tmp 9) rfl w1.heap.size (x.cells d.went) rfl rfl 40 _ hzn.out info40c rfl (cells_all _ _) ?_)
  rw [← hW2]
  replace hW2 := hid hW2
  by_cases hE : d.errs = 0
  · have e1 : d.syncD = d.went.sync := by unfold Dsk.syncD; rw [if_neg (by rw [hE]; decide)]
    have dE : (d.errs != 0) = false := by rw [hE]; rfl
    have kN := now_any (fun b => T b ∨ b = w.heap.size + 1 ∨ b = w1.heap.size) x d W2 ((hd.out.turn (T' := fun b => T b ∨ b = w.heap.size + 1 ∨ b = w1.heap.size) (fun b hb => by rcases hb with h | h | h <;> first | exact .inl h | (right; omega))).below hB) hi (fun b hb => hb.elim (fun h => Nat.lt_of_lt_of_le (hT b h) hB.size) (fun h => h.elim (fun h => by have := b2.size; omega) (fun h => by rw [h]; exact (Array.getElem?_eq_some_iff.1 r4.out).1))) hn
    replace e1 := hid e1
    replace hE := hid hE
    go_wp2_with (refine wpList_load_row rfl 40 (.tmp 1) rfl w.heap.size rfl 40 (x.cells d) (0, 0) _ q0.out Try.underlying40 rfl info40c ?_)
    refine kN.mono ?_
    clear kN
    rintro e w3 ⟨a0, c0, a1, c1, a2, c2, rfl, f0, f1, f2, hb3⟩
    have s4 := row_b r4.out hb3
    have s1 := row_b q1.out hb3
    have y0 := row_cell s4 0 (x.fv d.went 0) rfl
    have y1 := row_cell s4 1 (x.fv d.went 1) rfl
    have y2 := row_cell s4 2 (x.fv d.went 2) rfl
    have y3 := row_cell s4 3 (.slice x.oa x.its.length x.oc) rfl
    have g0 := row_free s4 0
    have g1 := row_free s4 1
    have g2 := row_free s4 2
    have g3 := row_free s4 3
    obtain ⟨x', hx'⟩ : ∃ x' : RDx, x' = ⟨fun i => if i = 0 then a0 else if i = 1 then a1 else a2, fun i => if i = 0 then c0 else if i = 1 then c1 else c2, none, 0, []⟩ := ⟨_, rfl⟩
    have hn0 : d.went.sync.dur 0 = runs d.ops d.dur 0 := by show d.went.cur 0 = _; rw [Dsk.went_cur]; exact hi.now 0 (by omega)
    have hn1 : d.went.sync.dur 1 = runs d.ops d.dur 1 := by show d.went.cur 1 = _; rw [Dsk.went_cur]; exact hi.now 1 (by omega)
    have hn2 : d.went.sync.dur 2 = runs d.ops d.dur 2 := by show d.went.cur 2 = _; rw [Dsk.went_cur]; exact hi.now 2 (by omega)
    have hcs : x'.cells d.went.sync = ((((x.cells d.went).setIfInBounds 0 (.slice a0 (runs d.ops d.dur 0).length c0)).setIfInBounds 1 (.slice a1 (runs d.ops d.dur 1).length c1)).setIfInBounds 2 (.slice a2 (runs d.ops d.dur 2).length c2)).setIfInBounds 3 (.slice none 0 0) := by
      rw [hx']; unfold RDx.cells RDx.fv; rw [hn0, hn1, hn2]; rfl
    obtain ⟨W4, hW4⟩ : ∃ W4, W4 = (((w3.setCell ⟨w1.heap.size, 0, none⟩ (.slice a0 (runs d.ops d.dur 0).length c0)).setCell ⟨w1.heap.size, 1, none⟩ (.slice a1 (runs d.ops d.dur 1).length c1)).setCell ⟨w1.heap.size, 2, none⟩ (.slice a2 (runs d.ops d.dur 2).length c2)).setCell ⟨w1.heap.size, 3, none⟩ (.slice none 0 0) := ⟨_, rfl⟩
    have t4 : W4.heap[w1.heap.size]? = some (.cells (x'.cells d.went.sync) 40 (0, 0)) := by rw [hW4, hcs]; exact set40 (set40 (set40 (set40 s4 0 _) 1 _) 2 _) 3 _
    have t1 : W4.heap[w.heap.size + 1]? = some (.cells #[.slice none 0 0, .slice none 0 0, .slice none 0 0, .slice none 0 0, .bool false, .int .i64 0, .int .i64 0, .int .i64 0] 40 (0, 0)) := by rw [hW4]; exact set_off (set_off (set_off (set_off s1 (by omega) _ _) (by omega) _ _) (by omega) _ _) (by omega) _ _
    have kp4 : Kp (fun b => b = w1.heap.size) w3 W4 := by
      rw [hW4]
      exact Kp.setCell (S := fun b => b = w1.heap.size) (p := ⟨w1.heap.size, 3, none⟩) (Kp.setCell (S := fun b => b = w1.heap.size) (p := ⟨w1.heap.size, 2, none⟩) (Kp.setCell (S := fun b => b = w1.heap.size) (p := ⟨w1.heap.size, 1, none⟩) (Kp.setCell (S := fun b => b = w1.heap.size) (p := ⟨w1.heap.size, 0, none⟩) (Kp.refl _ _) rfl _) rfl _) rfl _) rfl _
    have kp5 := kp_setRow (S := fun b => b = w.heap.size + 1) (Kp.refl _ W4) rfl (x'.cells d.went.sync)
    have hB4 : Below w.heap.size w W4 := (bnext hB hb3).trans (kp4.below (fun b h => by rw [h]; have := bl.size; have := hb1.size; omega) (by have := hB.size; have := hb3.size; omega))
    have hRD : RD (W4.setRow (w.heap.size + 1) (x'.cells d.went.sync)) T x' d.went.sync := by
      have fin : ∀ l a c, FA w3 (fun b => T b ∨ b = w.heap.size + 1 ∨ b = w1.heap.size) a c l → FA (W4.setRow (w.heap.size + 1) (x'.cells d.went.sync)) T a c l := fun l a c h => ((h.kp (kp4.more (fun k e => .inr (.inr e)))).kp (kp5.more (fun k e => .inr (.inl e)))).turn (fun k h => .inl (.inl h))
      refine ⟨fun i hi3 => ?_, by rw [hx']; rfl, by rw [hx']; exact CAt.nil _ _, by rw [hx']; exact fun h => absurd rfl h, by rw [hx']; exact Nat.le_refl _, by rw [hx']; exact fun i h => by cases h⟩
      match i, hi3 with
      | 0, _ =>
        have h9 := fin _ _ _ f0
        rw [hn0]
        rw [hx'] at h9 ⊢
        exact h9
      | 1, _ =>
        have h9 := fin _ _ _ f1
        rw [hn1]
        rw [hx'] at h9 ⊢
        exact h9
      | 2, _ =>
        have h9 := fin _ _ _ f2
        rw [hn2]
        rw [hx'] at h9 ⊢
        exact h9
    replace f0 := hid f0
    replace f1 := hid f1
    replace f2 := hid f2
    replace s4 := hid s4
    replace s1 := hid s1
    replace t4 := hid t4
    replace t1 := hid t1
    replace hcs := hid hcs
    replace hn0 := hid hn0
    replace hn1 := hid hn1
    replace hn2 := hid hn2
    replace hRD := hid hRD
    replace kp4 := hid kp4
    replace kp5 := hid kp5
    replace hx' := hid hx'
    go_upto_region 6 with fail
    rw [← hW4]
    replace hW4 := hid hW4
    clear y0 y1 y2 y3 g0 g1 g2 g3
    go_wp2_with (first
      | (refine wpList_load_row rfl 40 (.tmp 4) rfl w1.heap.size rfl 40 (x'.cells d.went.sync) (0, 0) _ t4.out Try.underlying40 rfl info40c ?_)
      | (refine wpList_store_row rfl 40 (.tmp 2) (.tmp 19) rfl (w.heap.size + 1) (x'.cells d.went.sync) rfl rfl 40 _ t1.out info40c rfl (cells_all _ _) ?_))
    (try simp only [Exit.inBlock, Exit.then])
    refine bodyPost_ret (results_row_tmp rfl _ _ (w.heap.size + 1) _ _ rfl (setRow_heap _ _ _ _ _ _ t1.out) rfl rfl) rfl ?_
    exact ⟨x', by rw [e1.out, hE.out]; rfl, by rw [e1.out]; exact hRD.out, below_setRow hB4 (by omega) _⟩
  · have e1 : d.syncD = d.went := by unfold Dsk.syncD; rw [if_pos hE]
    have dE : (d.errs != 0) = true := by simpa using hE
    replace e1 := hid e1
    have hRD : RD (W2.setRow (w.heap.size + 1) (x.cells d.went)) T x d.went := (hd.out.off (g := w.heap.size + 1) (by omega) W2 hB (kp_setRow (S := fun b => b = w.heap.size + 1) (Kp.refl _ W2) rfl _)).like (Dsk.went_dur d) (Dsk.went_ops d)
    replace hRD := hid hRD
    replace hE := hid hE
    go_wp2_with (first
      | (refine wpList_load_row rfl 40 (.tmp 4) rfl w1.heap.size rfl 40 (x.cells d.went) (0, 0) _ r4.out Try.underlying40 rfl info40c ?_)
      | (refine wpList_store_row rfl 40 (.tmp 2) (.tmp 13) rfl (w.heap.size + 1) (x.cells d.went) rfl rfl 40 _ q1.out info40c rfl (cells_all _ _) ?_))
    (try simp only [Exit.inBlock, Exit.then])
    refine bodyPost_ret (results_row_tmp rfl _ _ (w.heap.size + 1) _ _ rfl (setRow_heap _ _ _ _ _ _ q1.out) rfl rfl) rfl ?_
    exact ⟨x, by rw [e1.out]; rfl, by rw [e1.out]; exact hRD.out, below_setRow hB (by omega) _⟩

end Go.Proofs.Ytpngnmogjmdmhaa
