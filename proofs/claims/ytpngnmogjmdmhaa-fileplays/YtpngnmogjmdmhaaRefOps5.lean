/- Cut and Append of the document's disk. -/
import Derived.Test.YtpngnmogjmdmhaaRefOps4
namespace Go.Proofs.Ytpngnmogjmdmhaa
open Go.RowKit
set_option linter.unusedVariables false

/-- One of three files. -/
theorem ix_file {w1 : World} {T : Nat → Prop} {f : Fs} {a0 a1 a2 : Option Addr} {c0 c1 c2 : Nat} (h0 : FA w1 T a0 c0 (f 0)) (h1 : FA w1 T a1 c1 (f 1)) (h2 : FA w1 T a2 c2 (f 2)) (F : Nat) (hF : F < 3) :
    ∃ a c, (∀ w, (Instr.index 37 (.agg #[.slice a0 (f 0).length c0, .slice a1 (f 1).length c1, .slice a2 (f 2).length c2]) (.int .i64 (F : Int))).run Try.prog w = .ok (.slice a (f F).length c) w) ∧ FA w1 T a c (f F) := by
  match F, hF with
  | 0, _ => exact ⟨a0, c0, fun w => ixs0 w _ _ _, h0⟩
  | 1, _ => exact ⟨a1, c1, fun w => ixs1 w _ _ _, h1⟩
  | 2, _ => exact ⟨a2, c2, fun w => ixs2 w _ _ _, h2⟩

set_option maxRecDepth 100000 in
set_option maxHeartbeats 4000000 in
theorem rcut_any (T : Nat → Prop) (x : RDx) (d : Dsk) (f n : Int) (w : World) (hd : RD w T x d) (hi : d.Inv) (hT : ∀ k, T k → k < w.heap.size) (hn : d.ops.length ≤ 1000000) :
    Calls Try.prog 43 #[.agg (x.cells d), .int .i64 f, .int .i64 n] w fun e w' => ∃ x' : RDx, e = .returned (.tuple #[.agg (x'.cells (d.cutD f n)), .int .i64 (d.cutE f n)]) ∧ RD w' T x' (d.cutD f n) ∧ Below w.heap.size w w' := by
  obtain ⟨W0, hW0⟩ : ∃ W0, W0 = ((w.alloc (.cells (x.cells d) 40)).alloc (.cells #[.slice none 0 0, .slice none 0 0, .slice none 0 0, .slice none 0 0, .bool false, .int .i64 0, .int .i64 0, .int .i64 0] 40)) := ⟨_, rfl⟩
  have b1 := below_lit w (.cells (x.cells d) 40)
  have b2 := below_lit (w.alloc (.cells (x.cells d) 40)) (.cells #[.slice none 0 0, .slice none 0 0, .slice none 0 0, .slice none 0 0, .bool false, .int .i64 0, .int .i64 0, .int .i64 0] 40)
  have bl : Below w.heap.size w W0 := by rw [hW0]; exact bnext b1 b2
  have r0 : W0.heap[w.heap.size]? = some (.cells (x.cells d) 40 (0, 0)) := by rw [hW0]; exact row_b (heap_alloc_new w _) b2
  have r1 : W0.heap[w.heap.size + 1]? = some (.cells #[.slice none 0 0, .slice none 0 0, .slice none 0 0, .slice none 0 0, .bool false, .int .i64 0, .int .i64 0, .int .i64 0] 40 (0, 0)) := by rw [hW0, ← size_lit w (.cells (x.cells d) 40)]; exact heap_alloc_new _ _
  have hz : w.heap.size + 1 < W0.heap.size := (Array.getElem?_eq_some_iff.1 r1).1
  clear b1 b2
  obtain ⟨T2, hT2⟩ : ∃ T2 : Nat → Prop, T2 = fun b => T b ∨ b = w.heap.size + 1 := ⟨_, rfl⟩
  have hd2 : RD W0 T2 x d := by rw [hT2]; exact (hd.turn (fun b hb => hb.elim .inl (fun e => .inr (by omega)))).below bl
  have hT2b : ∀ b, T2 b → b < W0.heap.size := fun b hb => by rw [hT2] at hb; exact hb.elim (fun e => Nat.lt_of_lt_of_le (hT b e) bl.size) (fun e => by omega)
  have fin : ∀ W1 x' D, Below W0.heap.size W0 W1 → RD W1 T2 x' D → RD (W1.setRow (w.heap.size + 1) (x'.cells D)) T x' D ∧ Below w.heap.size w (W1.setRow (w.heap.size + 1) (x'.cells D)) := fun W1 x' D hb h =>
    ⟨(h.kp ((kp_setRow (S := fun b => b = w.heap.size + 1) (Kp.refl _ W1) rfl _).more (fun k e => by rw [hT2]; exact .inr e))).turn (fun k hk => .inl (by rw [hT2]; exact .inl hk)), below_setRow (bnext bl hb) (by omega) _⟩
  replace r0 := hid r0
  replace r1 := hid r1
  replace hd := hid hd
  replace hd2 := hid hd2
  replace hT2 := hid hT2
  replace fin := hid fin
  by_cases hb : bad f
  · have e1 : d.cutD f n = d := by unfold Dsk.cutD; rw [if_pos hb]
    have e2 : d.cutE f n = 2 := by unfold Dsk.cutE; rw [if_pos hb]
    replace e1 := hid e1
    replace e2 := hid e2
    rcases (show f < 0 ∨ 3 ≤ f by unfold bad at hb; omega) with h1 | h1
    · have d1 : decide (f < 0) = true := decide_eq_true h1
      clear hb
      go_enter Try.func43, Try.ntmps43
      go_upto_region 2 with fail
      rw [← hW0]
      replace hW0 := hid hW0
      go_wp2_with (first
        | (refine wpList_load_row rfl 40 (.tmp 3) rfl w.heap.size rfl 40 (x.cells d) (0, 0) _ r0.out Try.underlying40 rfl info40c ?_)
        | (refine wpList_store_row rfl 40 (.tmp 6) (.tmp 27) rfl (w.heap.size + 1) (x.cells d) rfl rfl 40 _ r1.out info40c rfl (cells_all _ _) ?_))
      (try simp only [Exit.inBlock, Exit.then])
      refine bodyPost_ret (results_row_tmp rfl _ _ (w.heap.size + 1) _ _ rfl (setRow_heap _ _ _ _ _ _ r1.out) rfl rfl) rfl ?_
      exact ⟨x, by rw [e1.out, e2.out]; rfl, by rw [e1.out]; exact (fin.out W0 x d (Below.refl _ _) hd2.out).1, (fin.out W0 x d (Below.refl _ _) hd2.out).2⟩
    · have d1 : decide (f < 0) = false := decide_eq_false (by omega)
      have d2 : decide (3 ≤ f) = true := decide_eq_true h1
      clear hb
      go_enter Try.func43, Try.ntmps43
      go_upto_region 2 with fail
      rw [← hW0]
      replace hW0 := hid hW0
      go_wp2_with (first
        | (refine wpList_load_row rfl 40 (.tmp 3) rfl w.heap.size rfl 40 (x.cells d) (0, 0) _ r0.out Try.underlying40 rfl info40c ?_)
        | (refine wpList_store_row rfl 40 (.tmp 6) (.tmp 27) rfl (w.heap.size + 1) (x.cells d) rfl rfl 40 _ r1.out info40c rfl (cells_all _ _) ?_))
      (try simp only [Exit.inBlock, Exit.then])
      refine bodyPost_ret (results_row_tmp rfl _ _ (w.heap.size + 1) _ _ rfl (setRow_heap _ _ _ _ _ _ r1.out) rfl rfl) rfl ?_
      exact ⟨x, by rw [e1.out, e2.out]; rfl, by rw [e1.out]; exact (fin.out W0 x d (Below.refl _ _) hd2.out).1, (fin.out W0 x d (Below.refl _ _) hd2.out).2⟩
  · obtain ⟨F, hF, rfl⟩ := not_bad hb
    have i0 : ¬ (F : Int) < 0 := by omega
    have i3 : ¬ (3 : Int) ≤ (F : Int) := by omega
    have hcur : d.cur F = runs d.ops d.dur F := hi.now F hF
    by_cases hn0 : n < 0
    · have e1 : d.cutD (F : Int) n = d := by unfold Dsk.cutD; rw [if_neg hb, if_pos (.inl hn0)]
      have e2 : d.cutE (F : Int) n = 2 := by unfold Dsk.cutE; rw [if_neg hb, if_pos (.inl hn0)]
      replace e1 := hid e1
      replace e2 := hid e2
      have dn : decide (n < 0) = true := decide_eq_true hn0
      clear hb
      go_enter Try.func43, Try.ntmps43
      go_upto_region 2 with fail
      rw [← hW0]
      replace hW0 := hid hW0
      go_wp2_with (first
        | (refine wpList_load_row rfl 40 (.tmp 3) rfl w.heap.size rfl 40 (x.cells d) (0, 0) _ r0.out Try.underlying40 rfl info40c ?_)
        | (refine wpList_store_row rfl 40 (.tmp 6) (.tmp 27) rfl (w.heap.size + 1) (x.cells d) rfl rfl 40 _ r1.out info40c rfl (cells_all _ _) ?_))
      (try simp only [Exit.inBlock, Exit.then])
      refine bodyPost_ret (results_row_tmp rfl _ _ (w.heap.size + 1) _ _ rfl (setRow_heap _ _ _ _ _ _ r1.out) rfl rfl) rfl ?_
      exact ⟨x, by rw [e1.out, e2.out]; rfl, by rw [e1.out]; exact (fin.out W0 x d (Below.refl _ _) hd2.out).1, (fin.out W0 x d (Below.refl _ _) hd2.out).2⟩
    · have dn : decide (n < 0) = false := decide_eq_false hn0
      obtain ⟨m, rfl⟩ : ∃ m : Nat, n = (m : Int) := ⟨n.toNat, by omega⟩
      have kN := now_any T2 x d W0 hd2.out hi hT2b hn
      unfold RDx.cells RDx.fv at kN
      have y0 := row_cell r0.out 0 (.slice (x.fa 0) (d.dur 0).length (x.fc 0)) rfl
      have y1 := row_cell r0.out 1 (.slice (x.fa 1) (d.dur 1).length (x.fc 1)) rfl
      have y2 := row_cell r0.out 2 (.slice (x.fa 2) (d.dur 2).length (x.fc 2)) rfl
      have y3 := row_cell r0.out 3 (.slice x.oa x.its.length x.oc) rfl
      have y4 := row_cell r0.out 4 (.bool d.down) rfl
      have y5 := row_cell r0.out 5 (.int .i64 d.arm) rfl
      have y6 := row_cell r0.out 6 (.int .i64 d.fail) rfl
      have y7 := row_cell r0.out 7 (.int .i64 d.fault) rfl
      have hlen : Hid ((runs d.ops d.dur F).length = (d.cur F).length) := hid (by rw [hcur])
      have e1 : (d.cur F).length < m → d.cutD (F : Int) (m : Int) = d ∧ d.cutE (F : Int) (m : Int) = 2 := fun h => by
        have h9 : (m : Int) < 0 ∨ ((d.cur (F : Int).toNat).length : Int) < (m : Int) := .inr (by rw [Int.toNat_natCast]; omega)
        unfold Dsk.cutD Dsk.cutE
        rw [if_neg hb, if_neg hb, if_pos h9, if_pos h9]; exact ⟨rfl, rfl⟩
      have e2 : ¬ (d.cur F).length < m → d.cutD (F : Int) (m : Int) = d.withD ⟨F, false, [], m⟩ ∧ d.cutE (F : Int) (m : Int) = d.errs := fun h => by
        have h9 : ¬ ((m : Int) < 0 ∨ ((d.cur (F : Int).toNat).length : Int) < (m : Int)) := by rw [Int.toNat_natCast]; omega
        unfold Dsk.cutD Dsk.cutE Dsk.withD
        rw [if_neg hb, if_neg hb, if_neg h9, if_neg h9, Int.toNat_natCast, Int.toNat_natCast]; exact ⟨rfl, rfl⟩
      replace e1 := hid e1
      replace e2 := hid e2
      replace hcur := hid hcur
      clear hb
      go_enter Try.func43, Try.ntmps43
      go_upto_region 1 with fail
      rw [← hW0]
      replace hW0 := hid hW0
      go_wp2_with fail
      refine kN.mono ?_
      clear kN
      rintro e w1 ⟨a0, c0, a1, c1, a2, c2, rfl, f0, f1, f2, hb1⟩
      obtain ⟨fa, fc, hix, ff⟩ := ix_file f0 f1 f2 F hF
      have hix1 := hix w1
      have q0 := row_b r0.out hb1
      have q1 := row_b r1.out hb1
      have hd3 := hid (hd2.out.below hb1)
      replace hix := hid hix
      replace f0 := hid f0
      replace f1 := hid f1
      replace f2 := hid f2
      replace ff := hid ff
      replace q0 := hid q0
      replace q1 := hid q1
      clear y0 y1 y2 y3 y4 y5 y6 y7
      generalize hLL : (runs d.ops d.dur F).length = LN at *
      replace hLL := hid hLL
      by_cases hm : LN < m
      · have dm : (LN : Int) < (m : Int) := by omega
        obtain ⟨z1, z2⟩ := e1.out (by rw [← hlen.out]; exact hm)
        replace z1 := hid z1
        replace z2 := hid z2
        go_wp2_with (first
          | (refine wpList_load_row rfl 40 (.tmp 3) rfl w.heap.size rfl 40 (x.cells d) (0, 0) _ q0.out Try.underlying40 rfl info40c ?_)
          | (refine wpList_store_row rfl 40 (.tmp 6) (.tmp 27) rfl (w.heap.size + 1) (x.cells d) rfl rfl 40 _ q1.out info40c rfl (cells_all _ _) ?_))
        (try simp only [Exit.inBlock, Exit.then])
        refine bodyPost_ret (results_row_tmp rfl _ _ (w.heap.size + 1) _ _ rfl (setRow_heap _ _ _ _ _ _ q1.out) rfl rfl) rfl ?_
        exact ⟨x, by rw [z1.out, z2.out]; rfl, by rw [z1.out]; exact (fin.out w1 x d hb1 hd3.out).1, (fin.out w1 x d hb1 hd3.out).2⟩
      · have dm : ¬ (LN : Int) < (m : Int) := by omega
        obtain ⟨z1, z2⟩ := e2.out (by rw [← hlen.out]; exact hm)
        replace z1 := hid z1
        replace z2 := hid z2
        have kW := rwith_any T2 x d ⟨⟨F, false, [], m⟩, none, 0⟩ w1 hd3.out hi (FA.nil _ _ _ _) (fun b hb => Nat.lt_of_lt_of_le (hT2b b hb) hb1.size) hn
        dsimp only [List.length_nil, Bool.not_false] at kW
        go_wp2_with (refine wpList_load_row rfl 40 (.tmp 3) rfl w.heap.size rfl 40 (x.cells d) (0, 0) _ q0.out Try.underlying40 rfl info40c ?_)
        refine kW.mono ?_
        clear kW
        rintro e w2 ⟨x', rfl, hd4, hb2⟩
        have s1 := row_b q1.out hb2
        have hfn := hid (fin.out w2 x' _ (bnext hb1 hb2) hd4)
        replace hd4 := hid hd4
        replace s1 := hid s1
        go_wp2_with (refine wpList_store_row rfl 40 (.tmp 6) (.tmp 33) rfl (w.heap.size + 1) (x'.cells (d.withD ⟨F, false, [], m⟩)) rfl rfl 40 _ s1.out info40c rfl (cells_all _ _) ?_)
        (try simp only [Exit.inBlock, Exit.then])
        refine bodyPost_ret (results_row_tmp rfl _ _ (w.heap.size + 1) _ _ rfl (setRow_heap _ _ _ _ _ _ s1.out) rfl rfl) rfl ?_
        exact ⟨x', by rw [z1.out, z2.out]; rfl, by rw [z1.out]; exact hfn.out.1, hfn.out.2⟩

end Go.Proofs.Ytpngnmogjmdmhaa
