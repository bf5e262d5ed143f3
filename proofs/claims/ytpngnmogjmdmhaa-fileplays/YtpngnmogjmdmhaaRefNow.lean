/- now of the document's disk. -/
import Derived.Test.YtpngnmogjmdmhaaRefAfter
namespace Go.Proofs.Ytpngnmogjmdmhaa
open Go.RowKit
set_option linter.unusedVariables false

theorem kept_all (ops : List Ch) (t : Nat) : kept ops ops.length t = ops := by unfold kept; rw [List.drop_length]

set_option maxRecDepth 100000 in
set_option maxHeartbeats 4000000 in
theorem now_any (T : Nat → Prop) (x : RDx) (d : Dsk) (w : World) (hd : RD w T x d) (hi : d.Inv) (hT : ∀ k, T k → k < w.heap.size) (hn : d.ops.length ≤ 1000000) :
    Calls Try.prog 57 #[.agg (x.cells d)] w fun e w' => ∃ a0 c0 a1 c1 a2 c2, e = .returned (.agg #[.slice a0 (runs d.ops d.dur 0).length c0, .slice a1 (runs d.ops d.dur 1).length c1, .slice a2 (runs d.ops d.dur 2).length c2]) ∧ FA w' T a0 c0 (runs d.ops d.dur 0) ∧ FA w' T a1 c1 (runs d.ops d.dur 1) ∧ FA w' T a2 c2 (runs d.ops d.dur 2) ∧ Below w.heap.size w w' := by
  have hil : x.its.length = d.ops.length := by rw [← hd.ops, List.length_map]
  have hk : kept d.ops x.its.length 0 = d.ops := by rw [hil]; exact kept_all _ _
  have hcall : ∀ W, Below w.heap.size w W → w.heap.size + 1 < W.heap.size → Calls Try.prog 60 #[.agg (x.cells d), .int .i64 (x.its.length : Int), .int .i64 ((0 : Nat) : Int)] W fun e w' => ∃ a0 c0 a1 c1 a2 c2, e = .returned (.agg #[.slice a0 (runs d.ops d.dur 0).length c0, .slice a1 (runs d.ops d.dur 1).length c1, .slice a2 (runs d.ops d.dur 2).length c2]) ∧ FA w' (fun k => T k ∨ k = w.heap.size + 1) a0 c0 (runs d.ops d.dur 0) ∧ FA w' (fun k => T k ∨ k = w.heap.size + 1) a1 c1 (runs d.ops d.dur 1) ∧ FA w' (fun k => T k ∨ k = w.heap.size + 1) a2 c2 (runs d.ops d.dur 2) ∧ Below W.heap.size W w' := fun W hb hz => by
    have h := after_any (fun k => T k ∨ k = w.heap.size + 1) x d x.its.length 0 W ((hd.turn (T' := (fun k => T k ∨ k = w.heap.size + 1)) (fun k h => h.elim .inl (fun e => .inr (by omega)))).below hb) hi (fun k h => h.elim (fun e => Nat.lt_of_lt_of_le (hT k e) hb.size) (fun e => by omega)) (by omega) (by omega) hn
    rw [hk] at h
    exact h
  replace hil := hid hil
  replace hk := hid hk
  replace hcall := hid hcall
  unfold RDx.cells RDx.fv
  go_enter Try.func57, Try.ntmps57
  go_wp2_with fail
  obtain ⟨bx, hbx⟩ : ∃ bx : Obj, bx = .cells #[.slice (x.fa 0) (d.dur 0).length (x.fc 0), .slice (x.fa 1) (d.dur 1).length (x.fc 1), .slice (x.fa 2) (d.dur 2).length (x.fc 2), .slice x.oa x.its.length x.oc, .bool d.down, .int .i64 d.arm, .int .i64 d.fail, .int .i64 d.fault] 40 := ⟨_, rfl⟩
  rw [← hbx]
  have bb := bnext (below_lit w bx) (below_lit (w.alloc bx) (.cells #[.slice none 0 0, .slice none 0 0, .slice none 0 0] 37))
  have hz : w.heap.size + 1 < ((w.alloc bx).alloc (.cells #[.slice none 0 0, .slice none 0 0, .slice none 0 0] 37)).heap.size := by simp
  have h6 : SBlk ((w.alloc bx).alloc (.cells #[.slice none 0 0, .slice none 0 0, .slice none 0 0] 37)) (w.heap.size + 1) (fun _ => .slice none 0 0) := heap_alloc2_new w _ _
  generalize (w.alloc bx).alloc (.cells #[.slice none 0 0, .slice none 0 0, .slice none 0 0] 37) = wb at *
  refine (hcall.out wb bb hz).mono ?_
  rintro e w5 ⟨a0, c0, a1, c1, a2, c2, rfl, fa0, fa1, fa2, hb5⟩
  have hz6 := h6.below hb5
  have hbl := bnext bb hb5
  clear bb hz h6 hbx hb5 hcall
  have f0 := hz6.free 0
  have f1 := hz6.free 1
  have f2 := hz6.free 2
  have q0 := hz6.cell 0 (by omega)
  have q1 := hz6.cell 1 (by omega)
  have q2 := hz6.cell 2 (by omega)
  have hr6 := hid (((hz6.set 0 (by omega) (.slice a0 (runs d.ops d.dur 0).length c0)).set 1 (by omega) (.slice a1 (runs d.ops d.dur 1).length c1)).set 2 (by omega) (.slice a2 (runs d.ops d.dur 2).length c2))
  have hb6 := hid (((hbl.setCell (p := ⟨w.heap.size + 1, 0, none⟩) (by show w.heap.size ≤ w.heap.size + 1; omega) (.slice a0 (runs d.ops d.dur 0).length c0)).setCell (p := ⟨w.heap.size + 1, 1, none⟩) (by show w.heap.size ≤ w.heap.size + 1; omega) (.slice a1 (runs d.ops d.dur 1).length c1)).setCell (p := ⟨w.heap.size + 1, 2, none⟩) (by show w.heap.size ≤ w.heap.size + 1; omega) (.slice a2 (runs d.ops d.dur 2).length c2))
  have kp6 : Kp (fun b => b = w.heap.size + 1) w5 _ := Kp.setCell (S := fun b => b = w.heap.size + 1) (p := ⟨w.heap.size + 1, 2, none⟩) (Kp.setCell (S := fun b => b = w.heap.size + 1) (p := ⟨w.heap.size + 1, 1, none⟩) (Kp.setCell (S := fun b => b = w.heap.size + 1) (p := ⟨w.heap.size + 1, 0, none⟩) (Kp.refl _ _) rfl (.slice a0 (runs d.ops d.dur 0).length c0)) rfl (.slice a1 (runs d.ops d.dur 1).length c1)) rfl (.slice a2 (runs d.ops d.dur 2).length c2)
  have fin : ∀ l a c, FA w5 (fun k => T k ∨ k = w.heap.size + 1) a c l → FA _ T a c l := fun l a c h => ((h.kp (kp6.more (fun k e => .inr e))).turn (T' := T) (fun k h => .inl (.inl h)))
  have r0 := hid (fin _ _ _ fa0)
  have r1 := hid (fin _ _ _ fa1)
  have r2 := hid (fin _ _ _ fa2)
  clear fin kp6 fa0 fa1 fa2 hbl
  go_wp2
  (try simp only [Exit.inBlock, Exit.then])
  refine bodyPost_ret (results_sl rfl _ _ (w.heap.size + 1) _ rfl hr6.out) rfl ?_
  exact ⟨a0, c0, a1, c1, a2, c2, rfl, r0.out, r1.out, r2.out, hb6.out⟩
end Go.Proofs.Ytpngnmogjmdmhaa
