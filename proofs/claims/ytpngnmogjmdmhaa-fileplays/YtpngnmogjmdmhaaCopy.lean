/- What Copy does. -/
import Derived.Test.YtpngnmogjmdmhaaAwake
namespace Go.Proofs.Ytpngnmogjmdmhaa
open Go.RowKit

/-- The first n of the six are f's, the others empty. -/
def part (f : Fs) (n : Nat) : Fs := fun k => if k < n then f k else []

structure Cop (w wr : World) (p' : Nat) (f : Fs) (dn : Bool) (e : Int) (n : Nat) (F : Nat → Value) : Prop where
  at' : DAt wr p' ⟨F, .slice none 0 0, []⟩ (part f n) dn 0 0 e
  own : ∀ k, SlotT p' F k → w.heap.size ≤ k
  bel : Below w.heap.size w wr

theorem part_succ (f : Fs) (n : Nat) : part f (n + 2) = upd (upd (part f n) n (f n)) (n + 1) (f (n + 1)) := by
  funext k
  unfold upd part
  by_cases h1 : k = n + 1
  · subst h1; simp
  · rw [if_neg h1]
    by_cases h2 : k = n
    · subst h2; simp
    · rw [if_neg h2]
      by_cases h3 : k < n
      · rw [if_pos h3, if_pos (by omega)]
      · rw [if_neg h3, if_neg (by omega)]

theorem info50 : (Try.prog.info? 50).map (·.size) = some 2 := by kernel_rfl
theorem ix0 (w : World) (a b c d e f : Value) : (Instr.index 51 (.agg #[a, b, c, d, e, f]) (.int .i64 0)).run Try.prog w = .ok (.agg #[a, b]) w := by
  obtain ⟨i, hi, hz⟩ := Option.map_eq_some_iff.1 info50
  simp [Instr.index, run_underlying Try.underlying51, sizeOf, typeInfo, hi, hz, go_sem]
theorem ix1 (w : World) (a b c d e f : Value) : (Instr.index 51 (.agg #[a, b, c, d, e, f]) (.int .i64 1)).run Try.prog w = .ok (.agg #[c, d]) w := by
  obtain ⟨i, hi, hz⟩ := Option.map_eq_some_iff.1 info50
  simp [Instr.index, run_underlying Try.underlying51, sizeOf, typeInfo, hi, hz, go_sem]
theorem ix2 (w : World) (a b c d e f : Value) : (Instr.index 51 (.agg #[a, b, c, d, e, f]) (.int .i64 2)).run Try.prog w = .ok (.agg #[e, f]) w := by
  obtain ⟨i, hi, hz⟩ := Option.map_eq_some_iff.1 info50
  simp [Instr.index, run_underlying Try.underlying51, sizeOf, typeInfo, hi, hz, go_sem]

theorem slot_fresh {w : World} {p : Nat} {F : Nat → Value} {f : Fs} {dn : Bool} {a b e : Int} (h : DAt w p ⟨F, .slice none 0 0, []⟩ f dn a b e) (j : Nat) (hj : j < 6) {v' : Value} {l' : List UInt8} (ho : Own w 0 v' l')
    (hne : ∀ i, i < 6 → ∀ k, v'.ownBlock = some k → (F i).ownBlock ≠ some k) : DAt (w.setCell ⟨p, 2 + j, none⟩ v') p ⟨upd F j v', .slice none 0 0, []⟩ (upd f j l') dn a b e := by
  have hset : Kp (fun k => k = p) w (w.setCell ⟨p, 2 + j, none⟩ v') := Kp.setCell (S := fun k => k = p) (p := ⟨p, 2 + j, none⟩) (Kp.refl _ _) rfl _
  refine ⟨h.blk.setF j hj v', ⟨?_, ?_⟩, World.ownsRow_nil _ 0 79 4, fun i hi => absurd hi (by simp), ?_⟩
  · intro i hi
    by_cases hij : i = j
    · subst hij
      show Own _ 0 (upd F i v' i) (upd f i l' i)
      rw [upd_same, upd_same]
      exact ho.kp hset (fun k e => h.blk.ne_own ho k e)
    · show Own _ 0 (upd F j v' i) (upd f j l' i)
      rw [upd_ne _ _ _ _ hij, upd_ne _ _ _ _ hij]
      exact (h.six.own i hi).kp hset (fun k e => h.blk.ne_own (h.six.own i hi) k e)
  · intro i i2 hi hi2 hne2 k e1 e2
    show False
    by_cases hij : i = j
    · have hi2j : i2 ≠ j := fun e => hne2 (hij.trans e.symm)
      rw [hij] at e1
      have e1' : v'.ownBlock = some k := by rw [← upd_same F j v']; exact e1
      have e2' : (F i2).ownBlock = some k := by rw [← upd_ne F j i2 v' hi2j]; exact e2
      exact hne i2 hi2 k e1' e2'
    · have e1' : (F i).ownBlock = some k := by rw [← upd_ne F j i v' hij]; exact e1
      by_cases hi2j : i2 = j
      · rw [hi2j] at e2
        have e2' : v'.ownBlock = some k := by rw [← upd_same F j v']; exact e2
        exact hne i hi k e2' e1'
      · have e2' : (F i2).ownBlock = some k := by rw [← upd_ne F j i2 v' hi2j]; exact e2
        exact h.six.apart i i2 hi hi2 hne2 k e1' e2'
  · rintro k ⟨i, hi, _⟩
    exact absurd hi (by simp)

/-- Two more files of the copy. -/
theorem cop_step {w wr w3 w4 : World} {p' : Nat} {f : Fs} {dn : Bool} {e : Int} {n : Nat} {F : Nat → Value} (hC : Cop w wr p' f dn e n F) (hn : n + 1 < 6) {W : World} {va vb : Value} (hW : Below wr.heap.size wr W) (ho3 : Own w3 W.heap.size va (f n)) (hb3 : Below W.heap.size W w3) (ho4 : Own w4 w3.heap.size vb (f (n + 1))) (hb4 : Below w3.heap.size w3 w4) :
    Cop w ((w4.setCell ⟨p', 2 + n, none⟩ va).setCell ⟨p', 2 + (n + 1), none⟩ vb) p' f dn e (n + 2) (upd (upd F n va) (n + 1) vb) := by
  have hz := hC.bel.size
  have hz1 := hW.size
  have hz2 := hb3.size
  have hz3 := hb4.size
  have b4 : Below wr.heap.size wr w4 := bnext (bnext hW hb3) hb4
  have h4 := hC.at'.below b4
  have oa : Own w4 0 va (f n) := (ho3.below hb4).le (Nat.zero_le _)
  have ob : Own w4 0 vb (f (n + 1)) := ho4.le (Nat.zero_le _)
  have hF : ∀ i, i < 6 → ∀ k, (F i).ownBlock = some k → k < wr.heap.size := fun i hi k e => ((hC.at'.six.own i hi).lt k e).2
  have h5 := slot_fresh h4 n (by omega) oa (fun i hi k e1 e2 => by have := (ho3.lt k e1).1; have := hF i hi k e2; omega)
  have hset : Kp (fun k => k = p') w4 (w4.setCell ⟨p', 2 + n, none⟩ va) := Kp.setCell (S := fun k => k = p') (p := ⟨p', 2 + n, none⟩) (Kp.refl _ _) rfl _
  have ob2 := ob.kp hset (fun k e => h4.blk.ne_own ob k e)
  have h6 := slot_fresh h5 (n + 1) (by omega) ob2 (fun i hi k e1 e2 => by
    have h7 := (ho4.lt k e1).1
    by_cases hin : i = n
    · rw [hin, upd_same] at e2
      have := (ho3.lt k e2).2
      omega
    · rw [upd_ne _ _ _ _ hin] at e2
      have := hF i hi k e2
      omega)
  have hp : w.heap.size ≤ p' := hC.own p' (.inl rfl)
  refine ⟨?_, ?_, ?_⟩
  · rw [part_succ]; exact h6
  · rintro k (e | ⟨i, hi, e⟩)
    · exact hC.own k (.inl e)
    · by_cases h1 : i = n + 1
      · rw [h1, upd_same] at e
        have := (ho4.lt k e).1
        omega
      · rw [upd_ne _ _ _ _ h1] at e
        by_cases h2 : i = n
        · rw [h2, upd_same] at e
          have := (ho3.lt k e).1
          omega
        · rw [upd_ne _ _ _ _ h2] at e
          exact hC.own k (.inr ⟨i, hi, e⟩)
  · exact ((bnext hC.bel b4).setCell (p := ⟨p', 2 + n, none⟩) hp _).setCell (p := ⟨p', 2 + (n + 1), none⟩) hp _

set_option maxRecDepth 100000 in
set_option maxHeartbeats 8000000 in
theorem copy_disk (p : Nat) (x : Dx) (d : Dsk) (w : World) (hi : d.Inv) (h : DIs w p x d) (hn : d.ops.length ≤ 1000000) :
    Calls Try.prog 13 #[.pointer (some ⟨p, 0, none⟩)] w fun e w' => ∃ p' x', e = .returned (.pointer (some ⟨p', 0, none⟩)) ∧ DIs w' p' x' d ∧ (∀ k, Turn p' x' k → w.heap.size ≤ k) ∧ (∀ k, Reads x' k → Reads x k) ∧ Below w.heap.size w w' := by
  have c1 := h.1.blk.c1
  have c11 := h.1.blk.c11
  go_enter Try.func13, Try.ntmps13
  go_wp2_with fail
  refine (isone_yes p _ h.1.blk.c0).mono ?_
  rintro e w1 ⟨rfl, rfl⟩
  go_wp2_with fail
  go_region
  obtain ⟨w2, hw2⟩ : ∃ w2, w2 = (w1.alloc (.cells #[.bool true, .bool d.down, .slice none 0 0, .slice none 0 0, .slice none 0 0, .slice none 0 0, .slice none 0 0, .slice none 0 0, .slice none 0 0, .int .i64 0, .int .i64 0, .int .i64 d.fault] 61)).drew := ⟨_, rfl⟩
  obtain ⟨p', hp'⟩ : ∃ p', p' = w1.heap.size := ⟨_, rfl⟩
  rw [← hw2, ← hp']
  have hb2 : Below w1.heap.size w1 w2 := by rw [hw2]; exact (below_lit w1 _).drew
  have hB2 : DBlk w2 p' true d.down nilF (.slice none 0 0) 0 0 d.fault := by rw [hw2, hp']; exact heap_alloc_new w1 _
  clear hw2
  replace hp' := hid hp'
  have h2 := h.1.below hb2
  obtain ⟨a0, q0, v0, _, t0⟩ := (h.1.six.own 0 (by omega)).form
  have s0 := six_short hi 0 (by omega)
  obtain ⟨a1, q1, v1, _, t1⟩ := (h.1.six.own 1 (by omega)).form
  have s1 := six_short hi 1 (by omega)
  obtain ⟨a2, q2, v2, _, t2⟩ := (h.1.six.own 2 (by omega)).form
  have s2 := six_short hi 2 (by omega)
  obtain ⟨a3, q3, v3, _, t3⟩ := (h.1.six.own 3 (by omega)).form
  have s3 := six_short hi 3 (by omega)
  obtain ⟨a4, q4, v4, _, t4⟩ := (h.1.six.own 4 (by omega)).form
  have s4 := six_short hi 4 (by omega)
  obtain ⟨a5, q5, v5, _, t5⟩ := (h.1.six.own 5 (by omega)).form
  have s5 := six_short hi 5 (by omega)
  have y0 := h2.blk.cF 0 (by omega)
  rw [v0] at y0
  have y1 := h2.blk.cF 1 (by omega)
  rw [v1] at y1
  have y2 := h2.blk.cF 2 (by omega)
  rw [v2] at y2
  have y3 := h2.blk.cF 3 (by omega)
  rw [v3] at y3
  have y4 := h2.blk.cF 4 (by omega)
  rw [v4] at y4
  have y5 := h2.blk.cF 5 (by omega)
  rw [v5] at y5
  have hCop : Cop w1 w2 p' d.six d.down d.fault 0 nilF := by
    refine ⟨⟨hB2, ⟨fun j _ => Own.nil _ _, fun i j _ _ _ k e => by cases e⟩, World.ownsRow_nil _ 0 79 4, fun i hi => absurd hi (by simp), ?_⟩, ?_, hb2⟩
    · rintro k ⟨i, hi, _⟩
      exact absurd hi (by simp)
    · rintro k (e | ⟨j, _, e⟩)
      · rw [e, hp'.out]; exact Nat.le_refl _
      · cases e
  clear c1 c11
  go_wp2_with fail
  go_loopw [23] (fun i wr => ∃ (j : Nat) (F : Nat → Value), j ≤ 3 ∧ i = .int .i64 j ∧ Cop w1 wr p' d.six d.down d.fault (2 * j) F) (fun i _ => 3 - (intOf i).toNat)
  case atStart => exact ⟨0, nilF, Nat.zero_le _, rfl, hCop⟩
  case round =>
    obtain ⟨j, F, hj, rfl, hC⟩ := hrel
    have hj4 : j = 0 ∨ j = 1 ∨ j = 2 ∨ j = 3 := by omega
    have bwr := hC.bel
    rcases hj4 with rfl | rfl | rfl | rfl
    · have hbr := below_lit wr (.cells #[.slice a0 (d.six 0).length q0, .slice a1 (d.six 1).length q1] 50)
      have hr : (wr.alloc (.cells #[.slice a0 (d.six 0).length q0, .slice a1 (d.six 1).length q1] 50)).heap[wr.heap.size]? = some (.cells #[.slice a0 (d.six 0).length q0, .slice a1 (d.six 1).length q1] 50 (0, 0)) := heap_alloc_new wr _
      have z0 : _ = some (Value.slice a0 (d.six 0).length q0) := cell_of_row _ wr.heap.size 0 _ 50 (0, 0) hr
      have z1 : _ = some (Value.slice a1 (d.six 1).length q1) := cell_of_row _ wr.heap.size 1 _ 50 (0, 0) hr
      have hd0 := hbr.drew
      have hc1 := clone_sl a0 q0 (d.six 0).length (d.six 0) _ rfl (by omega) (t0.below (bnext bwr hd0))
      have hc2 := fun (W : World) (hW : Below w1.heap.size w1 W) => clone_sl a1 q1 (d.six 1).length (d.six 1) W rfl (by omega) (t1.below hW)
      have hix := ix0 wr (.slice a0 (d.six 0).length q0) (.slice a1 (d.six 1).length q1) (.slice a2 (d.six 2).length q2) (.slice a3 (d.six 3).length q3) (.slice a4 (d.six 4).length q4) (.slice a5 (d.six 5).length q5)
      replace hC := hid hC
      go_wp2_with fail
      go_region_with (first | (go_at_call 34; have hx := hb3; refine (hc2 w3 (bnext (bnext bwr hd0) hb3)).mono ?_; rintro e w4 ⟨b4, e4, rfl, ho4, hb4⟩; have h4 := hC.out.at'.below (bnext (bnext hd0 hb3) hb4); have x0 := h4.blk.cF 0 (by omega); have x1 := h4.blk.cF 1 (by omega); have f0 := h4.blk.free 2; have f1 := h4.blk.free 3) | (go_at_call 34; refine hc1.mono ?_; rintro e w3 ⟨b3, e3, rfl, ho3, hb3⟩; have z1b := (hb3.cell (p := ⟨wr.heap.size, 1, none⟩) (World.block_lt_of_cell? _ _ z1)).trans z1))
      all_goals
        have hrel := hid (cop_step hC.out (by omega) hd0 ho3 hb3 ho4 hb4)
        go_wp2
        go_roundw
        case rel => exact ⟨1, _, by omega, by go_num, hrel.out⟩
        case measure => simp [intOf]
    · have hbr := below_lit wr (.cells #[.slice a2 (d.six 2).length q2, .slice a3 (d.six 3).length q3] 50)
      have hr : (wr.alloc (.cells #[.slice a2 (d.six 2).length q2, .slice a3 (d.six 3).length q3] 50)).heap[wr.heap.size]? = some (.cells #[.slice a2 (d.six 2).length q2, .slice a3 (d.six 3).length q3] 50 (0, 0)) := heap_alloc_new wr _
      have z0 : _ = some (Value.slice a2 (d.six 2).length q2) := cell_of_row _ wr.heap.size 0 _ 50 (0, 0) hr
      have z1 : _ = some (Value.slice a3 (d.six 3).length q3) := cell_of_row _ wr.heap.size 1 _ 50 (0, 0) hr
      have hd0 := hbr.drew
      have hc1 := clone_sl a2 q2 (d.six 2).length (d.six 2) _ rfl (by omega) (t2.below (bnext bwr hd0))
      have hc2 := fun (W : World) (hW : Below w1.heap.size w1 W) => clone_sl a3 q3 (d.six 3).length (d.six 3) W rfl (by omega) (t3.below hW)
      have hix := ix1 wr (.slice a0 (d.six 0).length q0) (.slice a1 (d.six 1).length q1) (.slice a2 (d.six 2).length q2) (.slice a3 (d.six 3).length q3) (.slice a4 (d.six 4).length q4) (.slice a5 (d.six 5).length q5)
      replace hC := hid hC
      go_wp2_with fail
      go_region_with (first | (go_at_call 34; have hx := hb3; refine (hc2 w3 (bnext (bnext bwr hd0) hb3)).mono ?_; rintro e w4 ⟨b4, e4, rfl, ho4, hb4⟩; have h4 := hC.out.at'.below (bnext (bnext hd0 hb3) hb4); have x0 := h4.blk.cF 2 (by omega); have x1 := h4.blk.cF 3 (by omega); have f0 := h4.blk.free 4; have f1 := h4.blk.free 5) | (go_at_call 34; refine hc1.mono ?_; rintro e w3 ⟨b3, e3, rfl, ho3, hb3⟩; have z1b := (hb3.cell (p := ⟨wr.heap.size, 1, none⟩) (World.block_lt_of_cell? _ _ z1)).trans z1))
      all_goals
        have hrel := hid (cop_step hC.out (by omega) hd0 ho3 hb3 ho4 hb4)
        go_wp2
        go_roundw
        case rel => exact ⟨2, _, by omega, by go_num, hrel.out⟩
        case measure => simp [intOf]
    · have hbr := below_lit wr (.cells #[.slice a4 (d.six 4).length q4, .slice a5 (d.six 5).length q5] 50)
      have hr : (wr.alloc (.cells #[.slice a4 (d.six 4).length q4, .slice a5 (d.six 5).length q5] 50)).heap[wr.heap.size]? = some (.cells #[.slice a4 (d.six 4).length q4, .slice a5 (d.six 5).length q5] 50 (0, 0)) := heap_alloc_new wr _
      have z0 : _ = some (Value.slice a4 (d.six 4).length q4) := cell_of_row _ wr.heap.size 0 _ 50 (0, 0) hr
      have z1 : _ = some (Value.slice a5 (d.six 5).length q5) := cell_of_row _ wr.heap.size 1 _ 50 (0, 0) hr
      have hd0 := hbr.drew
      have hc1 := clone_sl a4 q4 (d.six 4).length (d.six 4) _ rfl (by omega) (t4.below (bnext bwr hd0))
      have hc2 := fun (W : World) (hW : Below w1.heap.size w1 W) => clone_sl a5 q5 (d.six 5).length (d.six 5) W rfl (by omega) (t5.below hW)
      have hix := ix2 wr (.slice a0 (d.six 0).length q0) (.slice a1 (d.six 1).length q1) (.slice a2 (d.six 2).length q2) (.slice a3 (d.six 3).length q3) (.slice a4 (d.six 4).length q4) (.slice a5 (d.six 5).length q5)
      replace hC := hid hC
      go_wp2_with fail
      go_region_with (first | (go_at_call 34; have hx := hb3; refine (hc2 w3 (bnext (bnext bwr hd0) hb3)).mono ?_; rintro e w4 ⟨b4, e4, rfl, ho4, hb4⟩; have h4 := hC.out.at'.below (bnext (bnext hd0 hb3) hb4); have x0 := h4.blk.cF 4 (by omega); have x1 := h4.blk.cF 5 (by omega); have f0 := h4.blk.free 6; have f1 := h4.blk.free 7) | (go_at_call 34; refine hc1.mono ?_; rintro e w3 ⟨b3, e3, rfl, ho3, hb3⟩; have z1b := (hb3.cell (p := ⟨wr.heap.size, 1, none⟩) (World.block_lt_of_cell? _ _ z1)).trans z1))
      all_goals
        have hrel := hid (cop_step hC.out (by omega) hd0 ho3 hb3 ho4 hb4)
        go_wp2
        go_roundw
        case rel => exact ⟨3, _, by omega, by go_num, hrel.out⟩
        case measure => simp [intOf]
    · have hCd : DAt wr p' ⟨F, .slice none 0 0, []⟩ d.six d.down 0 0 d.fault := hC.at'.ext (fun j hj => by unfold part; rw [if_pos hj])
      have hCo := hC.own
      clear hC hCop
      have ho := h.1.below bwr
      obtain ⟨ca, cap, hv, hcap⟩ := owns_form h.1.row
      have hlen := h.len
      have c8 := ho.blk.c8
      rw [hv] at c8
      have c8' := hCd.blk.c8
      obtain ⟨hl1, _⟩ := own_list ho hv
      obtain ⟨i0, hii, hz0, hz1, hz2⟩ := info_parts info79
      have hone := its_one x.its
      have hcl : (x.its.flatMap CIt.cells).length = x.its.length * 4 := itsLen x.its
      have hl1d : CAt wr.drew ca (x.its.flatMap CIt.cells) := hl1.below (drew_below wr)
      have hCdd := hCd.below (drew_below wr)
      have hb63 : 0 + x.its.length ≤ maxLen := by unfold maxLen; omega
      have hb48 : (0 + x.its.length) * 48 ≤ 140737488355328 := by omega
      replace hlen := hid hlen
      replace hv := hid hv
      clear y0 y1 y2 y3 y4 y5 v0 v1 v2 v3 v4 v5 s0 s1 s2 s3 s4 s5 t0 t1 t2 t3 t4 t5
      go_wp2_with fail
      go_region_law (refine step_cat rfl (.tmp 44) (.tmp 48) 52 rfl 0 79 i0 _ 4 48 Try.underlying52 hii hz0 hz1 hz2 rfl (by omega) (.slice none 0 0) 0 [] rfl (World.ownsRow_nil _ 0 79 4) ca x.its.length cap (x.its.flatMap CIt.cells) rfl hcl hl1d hone hb63 hb48 (Nat.zero_le _) ?_; intro v3 w3 hr3 hgr3 hb3; obtain ⟨a3, e3, rfl, he3⟩ := owns_form hr3; have hB3 := hCdd.blk.kp (Kp.grown hgr3) (fun e => by cases e); have c83 := hB3.c8; have f83 := hB3.free 8)
      all_goals
        have hk3 : Kp (fun k => (Value.slice none 0 0).ownBlock = some k) wr w3 := (Kp.of_below (drew_below wr)).trans (Kp.grown hgr3)
        have hr4 : Row4 w3 (.slice a3 (0 + x.its.length) e3) x.its := by
          unfold Row4
          rw [List.nil_append, Nat.zero_add] at hr3
          rw [Nat.zero_add]
          exact hr3
        obtain ⟨h5, ht5, hk5⟩ := row_step hCd hk3 (v' := .slice a3 (0 + x.its.length) e3) (its' := x.its) (fun k e => by
          rcases hb3 with h4 | h4
          · rw [h4] at e; cases e
          · rw [h4] at e
            simp at e
            exact .inr (by omega)) hr4 (fun i hi => ho.adds i hi) (fun i hi ad e ht => by
            have h6 := (h.1.adds i hi).2 ad e
            rcases ht with h7 | h7 | h7
            · have := hCo ad.block (.inl h7); omega
            · have := hCo ad.block (.inr h7); omega
            · cases h7)
        have hT5 : ∀ k, Turn p' ⟨F, .slice a3 (0 + x.its.length) e3, x.its⟩ k → w1.heap.size ≤ k := fun k e => by
          rcases ht5 k e with h6 | h6
          · rcases h6 with h7 | h7 | h7
            · exact hCo k (.inl h7)
            · exact hCo k (.inr h7)
            · cases h7
          · exact Nat.le_trans bwr.size h6
        have b5 : Below w1.heap.size w1 (w3.setCell ⟨p', 8, none⟩ (.slice a3 (0 + x.its.length) e3)) := by
          refine bwr.trans (hk5.below (fun k e => ?_) bwr.size)
          rcases e with h7 | h7 | h7
          · exact hCo k (.inl h7)
          · exact hCo k (.inr h7)
          · cases h7
        simp only [Nat.zero_add] at h5 hT5 b5 ⊢
        clear c83 f83 hB3
        generalize w3.setCell ⟨p', 8, none⟩ (.slice a3 x.its.length e3) = w4 at *
        have ho4 := h.1.below b5
        have q0 := h5.blk.c9
        have q1 := h5.blk.free 9
        go_wp2_with fail
        go_region_with (first
          | (go_at_call 37; refine (load_any p 9 d.arm _ (show (w4.drew).cell? _ = _ from ho4.blk.c9)).mono ?_; rintro e w5 ⟨rfl, rfl⟩)
          | (go_at_call 36; refine (store_any p' 9 d.arm _ _ (show (w4.drew).cell? _ = _ from h5.blk.c9) (show (w4.drew).frozen? _ = _ from h5.blk.free 9)).mono ?_; rintro e w6 ⟨rfl, rfl⟩))
        all_goals
          have hk6 : Kp (fun k => k = p') w4 (w4.setCell ⟨p', 9, none⟩ (.int .i64 d.arm)) := Kp.setCell (S := fun k => k = p') (p := ⟨p', 9, none⟩) (Kp.refl _ _) rfl _
          have h6 := (blk_step h5 (h5.blk.set9 d.arm) hk6).1.below (drew_below _)
          have hp1 : w1.heap.size ≤ p' := hT5 p' (.inl rfl)
          have b6 : Below w1.heap.size w1 (w4.setCell ⟨p', 9, none⟩ (.int .i64 d.arm)).drew := (b5.setCell (p := ⟨p', 9, none⟩) hp1 _).drew
          clear q0 q1
          generalize (w4.setCell ⟨p', 9, none⟩ (.int .i64 d.arm)).drew = w5 at *
          have ho6 := h.1.below b6
          have q0 := h6.blk.c10
          have q1 := h6.blk.free 10
          go_wp2_with fail
          go_region_with (first
            | (go_at_call 37; refine (load_any p 10 d.fail _ (show (w5.drew).cell? _ = _ from ho6.blk.c10)).mono ?_; rintro e w6 ⟨rfl, rfl⟩)
            | (go_at_call 36; refine (store_any p' 10 d.fail _ _ (show (w5.drew).cell? _ = _ from h6.blk.c10) (show (w5.drew).frozen? _ = _ from h6.blk.free 10)).mono ?_; rintro e w7 ⟨rfl, rfl⟩))
          all_goals
            have hk7 : Kp (fun k => k = p') w5 (w5.setCell ⟨p', 10, none⟩ (.int .i64 d.fail)) := Kp.setCell (S := fun k => k = p') (p := ⟨p', 10, none⟩) (Kp.refl _ _) rfl _
            have h7 := (blk_step h6 (h6.blk.set10 d.fail) hk7).1.below (drew_below _)
            have b7 : Below w1.heap.size w1 (w5.setCell ⟨p', 10, none⟩ (.int .i64 d.fail)).drew := (b6.setCell (p := ⟨p', 10, none⟩) hp1 _).drew
            clear q0 q1
            generalize (w5.setCell ⟨p', 10, none⟩ (.int .i64 d.fail)).drew = w8 at *
            replace h7 := hid h7
            go_wp2
            go_ret
            exact ⟨p', _, rfl, ⟨h7.out, h.2⟩, hT5, fun k e => e, b7⟩
end Go.Proofs.Ytpngnmogjmdmhaa
