/- Durable, Read and Crash of the document's disk. -/
import Derived.Test.YtpngnmogjmdmhaaRefOps
namespace Go.Proofs.Ytpngnmogjmdmhaa
open Go.RowKit
set_option linter.unusedVariables false

theorem info26s : (Try.prog.info? 26).map (·.size) = some 1 := by kernel_rfl
theorem ixs0 (w : World) (a b c : Value) : (Instr.index 37 (.agg #[a, b, c]) (.int .i64 0)).run Try.prog w = .ok a w := by
  obtain ⟨i, hi, hz⟩ := Option.map_eq_some_iff.1 info26s
  simp [Instr.index, run_underlying Try.underlying37, sizeOf, typeInfo, hi, hz, go_sem]
theorem ixs1 (w : World) (a b c : Value) : (Instr.index 37 (.agg #[a, b, c]) (.int .i64 1)).run Try.prog w = .ok b w := by
  obtain ⟨i, hi, hz⟩ := Option.map_eq_some_iff.1 info26s
  simp [Instr.index, run_underlying Try.underlying37, sizeOf, typeInfo, hi, hz, go_sem]
theorem ixs2 (w : World) (a b c : Value) : (Instr.index 37 (.agg #[a, b, c]) (.int .i64 2)).run Try.prog w = .ok c w := by
  obtain ⟨i, hi, hz⟩ := Option.map_eq_some_iff.1 info26s
  simp [Instr.index, run_underlying Try.underlying37, sizeOf, typeInfo, hi, hz, go_sem]

theorem not_bad {f : Int} (h : ¬ bad f) : ∃ F : Nat, F < 3 ∧ f = (F : Int) := by
  unfold bad at h
  exact ⟨f.toNat, by omega, by omega⟩

set_option maxRecDepth 100000 in
set_option maxHeartbeats 1000000 in
theorem rdur_any (T : Nat → Prop) (x : RDx) (d : Dsk) (f : Int) (w : World) (hd : RD w T x d) :
    Calls Try.prog 46 #[.agg (x.cells d), .int .i64 f] w fun e w' => ∃ a c, e = .returned (.tuple #[.slice a (d.durB f).length c, .int .i64 (Dsk.durE f)]) ∧ FA w' T a c (d.durB f) ∧ Below w.heap.size w w' := by
  have bl := below_lit w (.cells (x.cells d) 40)
  have r0 := heap_alloc_new w (.cells (x.cells d) 40)
  by_cases hb : bad f
  · have e1 : d.durB f = [] := by unfold Dsk.durB; rw [if_pos hb]
    have e2 : Dsk.durE f = 2 := by unfold Dsk.durE; rw [if_pos hb]
    rw [e1, e2]
    clear e1 e2
    replace r0 := hid r0
    replace hd := hid hd
    rcases (show f < 0 ∨ 3 ≤ f by unfold bad at hb; omega) with h1 | h1
    · have d1 : decide (f < 0) = true := decide_eq_true h1
      clear hb
      go_enter Try.func46, Try.ntmps46
      go_wp2
      go_ret2
      exact ⟨none, 0, rfl, FA.nil _ _ _ _, bl⟩
    · have d1 : decide (f < 0) = false := decide_eq_false (by omega)
      have d2 : decide (3 ≤ f) = true := decide_eq_true h1
      clear hb
      go_enter Try.func46, Try.ntmps46
      go_wp2
      go_ret2
      exact ⟨none, 0, rfl, FA.nil _ _ _ _, bl⟩
  · obtain ⟨F, hF, rfl⟩ := not_bad hb
    have e1 : d.durB (F : Int) = d.dur F := by unfold Dsk.durB; rw [if_neg hb]; rfl
    have e2 : Dsk.durE (F : Int) = 0 := by unfold Dsk.durE; rw [if_neg hb]
    rw [e1, e2]
    clear e1 e2 hb
    have y := cell_fv r0 F hF
    unfold RDx.fv at y
    have i0 : ¬ (F : Int) < 0 := by omega
    have i3 : ¬ (3 : Int) ≤ (F : Int) := by omega
    have fa := hid ((hd.file F hF).below bl)
    replace r0 := hid r0
    replace hd := hid hd
    go_enter Try.func46, Try.ntmps46
    go_wp2
    go_ret2
    exact ⟨_, _, rfl, fa.out, bl⟩

set_option maxRecDepth 100000 in
set_option maxHeartbeats 1000000 in
theorem rread_any (T : Nat → Prop) (x : RDx) (d : Dsk) (f : Int) (w : World) (hd : RD w T x d) (hi : d.Inv) (hT : ∀ k, T k → k < w.heap.size) (hn : d.ops.length ≤ 1000000) :
    Calls Try.prog 45 #[.agg (x.cells d), .int .i64 f] w fun e w' => ∃ a c, e = .returned (.tuple #[.slice a (d.readB f).length c, .int .i64 (d.readE f)]) ∧ FA w' T a c (d.readB f) ∧ Below w.heap.size w w' := by
  have bl := below_lit w (.cells (x.cells d) 40)
  have r0 := heap_alloc_new w (.cells (x.cells d) 40)
  by_cases hb : bad f
  · have e1 : d.readB f = [] := by unfold Dsk.readB; rw [if_pos hb]
    have e2 : d.readE f = 2 := by unfold Dsk.readE; rw [if_pos hb]
    rw [e1, e2]
    clear e1 e2
    replace r0 := hid r0
    replace hd := hid hd
    rcases (show f < 0 ∨ 3 ≤ f by unfold bad at hb; omega) with h1 | h1
    · have d1 : decide (f < 0) = true := decide_eq_true h1
      clear hb
      go_enter Try.func45, Try.ntmps45
      go_wp2
      go_ret2
      exact ⟨none, 0, rfl, FA.nil _ _ _ _, bl⟩
    · have d1 : decide (f < 0) = false := decide_eq_false (by omega)
      have d2 : decide (3 ≤ f) = true := decide_eq_true h1
      clear hb
      go_enter Try.func45, Try.ntmps45
      go_wp2
      go_ret2
      exact ⟨none, 0, rfl, FA.nil _ _ _ _, bl⟩
  · cases hdn : d.down with
    | true =>
      have e1 : d.readB f = [] := by unfold Dsk.readB; rw [if_neg hb, hdn]; rfl
      have e2 : d.readE f = 6 := by unfold Dsk.readE; rw [if_neg hb, hdn]; rfl
      rw [e1, e2]
      clear e1 e2
      have y := row_cell r0 4 (.bool d.down) rfl
      rw [hdn] at y
      replace hdn := hid hdn
      obtain ⟨F, hF, rfl⟩ := not_bad hb
      have i0 : ¬ (F : Int) < 0 := by omega
      have i3 : ¬ (3 : Int) ≤ (F : Int) := by omega
      clear hb
      replace r0 := hid r0
      replace hd := hid hd
      go_enter Try.func45, Try.ntmps45
      go_wp2
      go_ret2
      exact ⟨none, 0, rfl, FA.nil _ _ _ _, bl⟩
    | false =>
      obtain ⟨F, hF, rfl⟩ := not_bad hb
      have e1 : d.readB (F : Int) = runs d.ops d.dur F := by unfold Dsk.readB; rw [if_neg hb, hdn]; exact hi.now F hF
      have e2 : d.readE (F : Int) = 0 := by unfold Dsk.readE; rw [if_neg hb, hdn]; rfl
      rw [e1, e2]
      clear e1 e2 hb
      have y := row_cell r0 4 (.bool d.down) rfl
      rw [hdn] at y
      obtain ⟨W0, hW0⟩ : ∃ W0, W0 = w.alloc (.cells (x.cells d) 40) := ⟨_, rfl⟩
      rw [← hW0] at r0 bl
      have kN := now_any T x d W0 (hd.below bl) hi (fun k h => Nat.lt_of_lt_of_le (hT k h) bl.size) hn
      have hlen : F < 3 := hF
      replace r0 := hid r0
      replace hd := hid hd
      replace hdn := hid hdn
      obtain rfl | rfl | rfl : F = 0 ∨ F = 1 ∨ F = 2 := by omega
      · skip
        have hl := hid hlen
        go_enter Try.func45, Try.ntmps45
        go_upto_region 5 with fail
        rw [← hW0]
        replace hW0 := hid hW0
        go_wp2_with (refine wpList_load_row rfl 40 (.tmp 2) rfl w.heap.size rfl 40 (x.cells d) (0, 0) _ r0.out Try.underlying40 rfl info40c ?_)
        refine kN.mono ?_
        rintro e w1 ⟨a0, c0, a1, c1, a2, c2, rfl, f0, f1, f2, hb1⟩
        have hix := ixs0 w1 (.slice a0 (runs d.ops d.dur 0).length c0) (.slice a1 (runs d.ops d.dur 1).length c1) (.slice a2 (runs d.ops d.dur 2).length c2)
        replace f0 := hid f0
        replace f1 := hid f1
        replace f2 := hid f2
        go_wp2
        go_ret2
        exact ⟨a0, c0, rfl, f0.out, bnext bl hb1⟩
      · skip
        have hl := hid hlen
        go_enter Try.func45, Try.ntmps45
        go_upto_region 5 with fail
        rw [← hW0]
        replace hW0 := hid hW0
        go_wp2_with (refine wpList_load_row rfl 40 (.tmp 2) rfl w.heap.size rfl 40 (x.cells d) (0, 0) _ r0.out Try.underlying40 rfl info40c ?_)
        refine kN.mono ?_
        rintro e w1 ⟨a0, c0, a1, c1, a2, c2, rfl, f0, f1, f2, hb1⟩
        have hix := ixs1 w1 (.slice a0 (runs d.ops d.dur 0).length c0) (.slice a1 (runs d.ops d.dur 1).length c1) (.slice a2 (runs d.ops d.dur 2).length c2)
        replace f0 := hid f0
        replace f1 := hid f1
        replace f2 := hid f2
        go_wp2
        go_ret2
        exact ⟨a1, c1, rfl, f1.out, bnext bl hb1⟩
      · skip
        have hl := hid hlen
        go_enter Try.func45, Try.ntmps45
        go_upto_region 5 with fail
        rw [← hW0]
        replace hW0 := hid hW0
        go_wp2_with (refine wpList_load_row rfl 40 (.tmp 2) rfl w.heap.size rfl 40 (x.cells d) (0, 0) _ r0.out Try.underlying40 rfl info40c ?_)
        refine kN.mono ?_
        rintro e w1 ⟨a0, c0, a1, c1, a2, c2, rfl, f0, f1, f2, hb1⟩
        have hix := ixs2 w1 (.slice a0 (runs d.ops d.dur 0).length c0) (.slice a1 (runs d.ops d.dur 1).length c1) (.slice a2 (runs d.ops d.dur 2).length c2)
        replace f0 := hid f0
        replace f1 := hid f1
        replace f2 := hid f2
        go_wp2
        go_ret2
        exact ⟨a2, c2, rfl, f2.out, bnext bl hb1⟩

set_option maxRecDepth 100000 in
set_option maxHeartbeats 1000000 in
theorem rcrash_any (T : Nat → Prop) (x : RDx) (d : Dsk) (k t : Int) (w : World) (hd : RD w T x d) (hi : d.Inv) (hT : ∀ k, T k → k < w.heap.size) (hn : d.ops.length ≤ 1000000) (hk : k ≤ 9223372036854775807) (ht : t ≤ 9223372036854775807) :
    Calls Try.prog 49 #[.agg (x.cells d), .int .i64 k, .int .i64 t] w fun e w' => ∃ x' : RDx, e = .returned (.tuple #[.agg (x'.cells (d.crashD k t)), .int .i64 (Dsk.crashE k t)]) ∧ RD w' T x' (d.crashD k t) ∧ Below w.heap.size w w' := by
  obtain ⟨W0, hW0⟩ : ∃ W0, W0 = ((w.alloc (.cells (x.cells d) 40)).alloc (.cells #[.slice none 0 0, .slice none 0 0, .slice none 0 0, .slice none 0 0, .bool false, .int .i64 0, .int .i64 0, .int .i64 0] 40)) := ⟨_, rfl⟩
  have b1 := below_lit w (.cells (x.cells d) 40)
  have b2 := below_lit (w.alloc (.cells (x.cells d) 40)) (.cells #[.slice none 0 0, .slice none 0 0, .slice none 0 0, .slice none 0 0, .bool false, .int .i64 0, .int .i64 0, .int .i64 0] 40)
  have bl : Below w.heap.size w W0 := by rw [hW0]; exact bnext b1 b2
  have r0 : W0.heap[w.heap.size]? = some (.cells (x.cells d) 40 (0, 0)) := by rw [hW0]; exact row_b (heap_alloc_new w _) b2
  have r1 : W0.heap[w.heap.size + 1]? = some (.cells #[.slice none 0 0, .slice none 0 0, .slice none 0 0, .slice none 0 0, .bool false, .int .i64 0, .int .i64 0, .int .i64 0] 40 (0, 0)) := by rw [hW0, ← size_lit w (.cells (x.cells d) 40)]; exact heap_alloc_new _ _
  have hz : w.heap.size + 1 < W0.heap.size := (Array.getElem?_eq_some_iff.1 r1).1
  clear b1 b2
  by_cases h : k < 0 ∨ t < 0
  · have e1 : d.crashD k t = d := by unfold Dsk.crashD; rw [if_pos h]
    have e2 : Dsk.crashE k t = 2 := by unfold Dsk.crashE; rw [if_pos h]
    rw [e1, e2]
    clear e1 e2
    replace r0 := hid r0
    replace r1 := hid r1
    by_cases h1 : k < 0
    · have d1 : decide (k < 0) = true := decide_eq_true h1
      clear h
      go_enter Try.func49, Try.ntmps49
      go_upto_region 2 with fail
      rw [← hW0]
      replace hW0 := hid hW0
      go_wp2_with (first
        | (refine wpList_load_row rfl 40 (.tmp 3) rfl w.heap.size rfl 40 (x.cells d) (0, 0) _ r0.out Try.underlying40 rfl info40c ?_)
        | (refine wpList_store_row rfl 40 (.tmp 6) (.tmp 14) rfl (w.heap.size + 1) (x.cells d) rfl rfl 40 _ r1.out info40c rfl (cells_all _ _) ?_))
      (try simp only [Exit.inBlock, Exit.then])
      refine bodyPost_ret (results_row_tmp rfl _ _ (w.heap.size + 1) _ _ rfl (setRow_heap _ _ _ _ _ _ r1.out) rfl rfl) rfl ?_
      have kp := kp_setRow (S := fun b => b = w.heap.size + 1) (Kp.refl _ W0) rfl (x.cells d)
      exact ⟨x, rfl, (((hd.turn (T' := (fun b => T b ∨ b = w.heap.size + 1)) (fun b hb => hb.elim .inl (fun e => .inr (by omega)))).below bl).kp (kp.more (fun k e => .inr e))).turn (fun b hb => .inl (.inl hb)), below_setRow bl (by omega) _⟩
    · have d1 : decide (k < 0) = false := decide_eq_false h1
      have d2 : decide (t < 0) = true := decide_eq_true (by omega)
      clear h
      go_enter Try.func49, Try.ntmps49
      go_upto_region 2 with fail
      rw [← hW0]
      replace hW0 := hid hW0
      go_wp2_with (first
        | (refine wpList_load_row rfl 40 (.tmp 3) rfl w.heap.size rfl 40 (x.cells d) (0, 0) _ r0.out Try.underlying40 rfl info40c ?_)
        | (refine wpList_store_row rfl 40 (.tmp 6) (.tmp 14) rfl (w.heap.size + 1) (x.cells d) rfl rfl 40 _ r1.out info40c rfl (cells_all _ _) ?_))
      (try simp only [Exit.inBlock, Exit.then])
      refine bodyPost_ret (results_row_tmp rfl _ _ (w.heap.size + 1) _ _ rfl (setRow_heap _ _ _ _ _ _ r1.out) rfl rfl) rfl ?_
      have kp := kp_setRow (S := fun b => b = w.heap.size + 1) (Kp.refl _ W0) rfl (x.cells d)
      exact ⟨x, rfl, (((hd.turn (T' := (fun b => T b ∨ b = w.heap.size + 1)) (fun b hb => hb.elim .inl (fun e => .inr (by omega)))).below bl).kp (kp.more (fun k e => .inr e))).turn (fun b hb => .inl (.inl hb)), below_setRow bl (by omega) _⟩
  · obtain ⟨K, rfl⟩ : ∃ K : Nat, k = (K : Int) := ⟨k.toNat, by omega⟩
    obtain ⟨R, rfl⟩ : ∃ R : Nat, t = (R : Int) := ⟨t.toNat, by omega⟩
    have e1 : d.crashD (K : Int) (R : Int) = d.crash K R := by unfold Dsk.crashD; rw [if_neg h]; rfl
    have e2 : Dsk.crashE (K : Int) (R : Int) = 0 := by unfold Dsk.crashE; rw [if_neg h]
    rw [e1, e2]
    clear e1 e2 h
    have kA := after_any (fun b => T b ∨ b = w.heap.size + 1) x d K R W0 ((hd.turn (T' := (fun b => T b ∨ b = w.heap.size + 1)) (fun b hb => hb.elim .inl (fun e => .inr (by omega)))).below bl) hi (fun b hb => hb.elim (fun e => Nat.lt_of_lt_of_le (hT b e) bl.size) (fun e => by omega)) (by omega) (by omega) hn
    have i0 : ¬ (K : Int) < 0 := by omega
    have i1 : ¬ (R : Int) < 0 := by omega
    replace r0 := hid r0
    replace r1 := hid r1
    replace hd := hid hd
    go_enter Try.func49, Try.ntmps49
    go_upto_region 3 with fail
    rw [← hW0]
    replace hW0 := hid hW0
    go_wp2_with (refine wpList_load_row rfl 40 (.tmp 3) rfl w.heap.size rfl 40 (x.cells d) (0, 0) _ r0.out Try.underlying40 rfl info40c ?_)
    refine kA.mono ?_
    rintro e w1 ⟨a0, c0, a1, c1, a2, c2, rfl, f0, f1, f2, hb1⟩
    have q1 := row_b r1.out hb1
    obtain ⟨x', hx'⟩ : ∃ x' : RDx, x' = ⟨fun i => if i = 0 then a0 else if i = 1 then a1 else a2, fun i => if i = 0 then c0 else if i = 1 then c1 else c2, none, 0, []⟩ := ⟨_, rfl⟩
    have hcs : x'.cells (d.crash K R) = #[.slice a0 (runs (kept d.ops K R) d.dur 0).length c0, .slice a1 (runs (kept d.ops K R) d.dur 1).length c1, .slice a2 (runs (kept d.ops K R) d.dur 2).length c2, .slice none 0 0, .bool false, .int .i64 (-1), .int .i64 (-1), .int .i64 0] := by rw [hx']; rfl
    have hall := cells_all x' (d.crash K R)
    rw [hcs] at hall
    have kp := kp_setRow (S := fun b => b = w.heap.size + 1) (Kp.refl _ w1) rfl #[.slice a0 (runs (kept d.ops K R) d.dur 0).length c0, .slice a1 (runs (kept d.ops K R) d.dur 1).length c1, .slice a2 (runs (kept d.ops K R) d.dur 2).length c2, .slice none 0 0, .bool false, .int .i64 (-1), .int .i64 (-1), .int .i64 0]
    have hRD : RD (w1.setRow (w.heap.size + 1) #[.slice a0 (runs (kept d.ops K R) d.dur 0).length c0, .slice a1 (runs (kept d.ops K R) d.dur 1).length c1, .slice a2 (runs (kept d.ops K R) d.dur 2).length c2, .slice none 0 0, .bool false, .int .i64 (-1), .int .i64 (-1), .int .i64 0]) T x' (d.crash K R) := by
      have fin : ∀ l a c, FA w1 (fun k => T k ∨ k = w.heap.size + 1) a c l → FA _ T a c l := fun l a c h => ((h.kp (kp.more (fun k e => .inr e))).turn (T' := T) (fun k h => .inl (.inl h)))
      rw [hx']
      refine ⟨fun i hi3 => ?_, rfl, CAt.nil _ _, fun h => absurd rfl h, Nat.le_refl _, fun i h => by cases h⟩
      match i, hi3 with
      | 0, _ => exact fin _ _ _ f0
      | 1, _ => exact fin _ _ _ f1
      | 2, _ => exact fin _ _ _ f2
    replace f0 := hid f0
    replace f1 := hid f1
    replace f2 := hid f2
    replace q1 := hid q1
    replace hRD := hid hRD
    replace hall := hid hall
    replace kp := hid kp
    replace hcs := hid hcs
    replace hx' := hid hx'
    go_wp2_with (refine wpList_store_row rfl 40 (.tmp 6) (.tmp 19) rfl (w.heap.size + 1) #[.slice a0 (runs (kept d.ops K R) d.dur 0).length c0, .slice a1 (runs (kept d.ops K R) d.dur 1).length c1, .slice a2 (runs (kept d.ops K R) d.dur 2).length c2, .slice none 0 0, .bool false, .int .i64 (-1), .int .i64 (-1), .int .i64 0] rfl rfl 40 _ q1.out info40 rfl hall.out ?_)
    (try simp only [Exit.inBlock, Exit.then])
    refine bodyPost_ret (results_row_tmp rfl _ _ (w.heap.size + 1) _ _ rfl (setRow_heap _ _ _ _ _ _ q1.out) rfl rfl) rfl ?_
    exact ⟨x', by rw [hcs.out]; rfl, hRD.out, below_setRow (bnext bl hb1) (by omega) _⟩

end Go.Proofs.Ytpngnmogjmdmhaa
