/- SessionOnce: send (31). -/
import Derived.Test.YthjggjjocfbjcaaOnceS
import Derived.Deep.RegionHeld3
namespace Go.Proofs.Ythjggjjocfbjcaa
open Go.RowKit

theorem step_ap3 {ops : Array Oper} {o : Oper} {a : Act} {w w' : World} {K : Act → World → Prop} {Q : Exit → Act → World → Prop} {E : Prop} (hg : o.guard = none) (s x : Operand) (t : Nat)
    (ho : o.op = .call { callee := .builtin .append, args := #[s, x], argTypes := #[t, t] }) (hty : o.type = t) (u v r : Value) (hs : a.eval s = u) (hx : a.eval x = v)
    (hrun : (Builtin.append_ #[t, t] t #[u, v]).run Try.prog w = .ok r w') (hK : K (a.put o.dst r) w') :
    if Region.wanted o (yielded ops a.tmps) = true then Oper.wp Try.prog o a w K Q else E := by
  have hw : Region.wanted o (yielded ops a.tmps) = true := by simp [Region.wanted, hg]
  rw [if_pos hw]
  unfold Oper.wp
  simp [execOp, ho, hty, resolve, invoke, builtin, hs, hx, hrun, Result.andThen]
  exact hK

theorem wpList_ap3 {w w' : World} {ops : Array Oper} {rest : List Oper} {o : Oper} {a : Act} {Q : Exit → Act → World → Prop} (hgd : o.guard = none) (s x : Operand) (t : Nat)
    (ho : o.op = .call { callee := .builtin .append, args := #[s, x], argTypes := #[t, t] }) (hty : o.type = t) (u v r : Value) (hs : a.eval s = u) (hx : a.eval x = v)
    (hrun : (Builtin.append_ #[t, t] t #[u, v]).run Try.prog w = .ok r w') (h : wpList Try.prog ops Q rest (a.put o.dst r) w') : wpList Try.prog ops Q (o :: rest) a w := by
  refine wpList_plain hgd fun K hK => ?_
  unfold Oper.wp
  simp [execOp, ho, hty, resolve, invoke, builtin, hs, hx, hrun, Result.andThen]
  exact hK _ _ h

theorem info71 : (Try.prog.info? 71).map (fun i => (i.zero, i.size, i.bytes)) = some (some (.agg #[.int .i64 0, .int .i64 0, .int .i64 0]), 3, 24) := by kernel_rfl
theorem info74 : (Try.prog.info? 74).map (fun i => (i.zero, i.size, i.bytes)) = some (some (.agg #[.int .i64 0, .int .i64 0, .int .i64 0]), 3, 24) := by kernel_rfl

set_option maxRecDepth 100000 in
set_option maxHeartbeats 2000000 in
theorem send_any {base g : Nat} {w : World} {la : Option Addr} {lc : Nat} {L : List CV} {A : Nat → AV} {tv : Value} {T : List P3} {bv : Value} {B : List P3} {rb : Nat → Nat} {R : Nat → List Int} {ctr : Int}
    (h : OS base g w la lc L A tv T bv B rb R ctr) (k : Nat) (hk : k < 4) (r : Int) (hl : T.length ≤ 1000) (hbase : base ≤ w.heap.size) :
    Calls Try.prog 31 #[.pointer (some ⟨g, 0, none⟩), .int .i64 (k : Int), .int .i64 r] w fun e w' => ∃ v, e = .returned v ∧ (∃ tv', OS base g w' la lc L A tv' (T ++ [((A k).id, r, (A k).acked)]) bv B rb R ctr) ∧ Below base w w' := by
  obtain ⟨i0, hi, hz0, hz1, hz2⟩ := info_parts info71
  obtain ⟨W, hW⟩ : ∃ W, W = (w.alloc (.cells #[.int .i64 (A k).id, .int .i64 r, .int .i64 (A k).acked] 71)).drew := ⟨_, rfl⟩
  have hb1 : Below w.heap.size w W := by rw [hW]; exact (below_lit w _).drew
  have hO := h.below hb1
  have hat : CAt W (some ⟨w.heap.size, 0, none⟩) (c3 ((A k).id, r, (A k).acked)) := by
    rw [hW]
    exact cat_lit w 71 _ _ rfl
  obtain ⟨tv', w1, hrun, hq, hgr, hv⟩ := QR.app (ty := 61) Try.underlying61 hi hz0 hz1 hz2 rfl hO.to ((A k).id, r, (A k).acked) ⟨w.heap.size, 0, none⟩ 1 hat (by omega) (Nat.le_trans hbase hb1.size)
  have hS := hO.setT hq (Kp.grown hgr) hv
  obtain ⟨a9, c9, rfl, -⟩ := hq.form
  have hsl := hO.slt
  have hB : Below base w (w1.setCell ⟨g, 17, none⟩ (.slice a9 (T ++ [((A k).id, r, (A k).acked)]).length c9)) := by
    have h1 : Kp (fun k => tv.ownBlock = some k ∨ k = g) w (w1.setCell ⟨g, 17, none⟩ (.slice a9 (T ++ [((A k).id, r, (A k).acked)]).length c9)) := ((Kp.of_below hb1).trans ((Kp.grown hgr).mono fun k _ e => .inl e)).trans ((kp_set w1 g 17 (.slice a9 (T ++ [((A k).id, r, (A k).acked)]).length c9)).mono fun k _ e => .inr e)
    exact h1.below (fun k e => by rcases e with e | e; exact (hsl k (.inr (.inl e))).1; exact (hsl k (.inl e)).1) hbase
  have hb9 : WB w1 g (.slice la L.length lc) A tv bv rb ctr := hO.blk.kp (Kp.grown hgr) fun e => (hO.t_ne e).1 rfl
  have z1 := hb9.t
  have z2 := hb9.free 17
  have z3 := hb9.a0 k hk
  have z4 := hb9.a2 k hk
  have y1 := h.blk.t
  have y2 := h.blk.a0 k hk
  have y3 := h.blk.a2 k hk
  have glt := h.blk.lt
  have k0 : (0 : Int) ≤ (k : Int) := by omega
  have k4 : (k : Int) < 4 := by omega
  have e9 : (T ++ [((A k).id, r, (A k).acked)]).length = T.length + 1 := by simp
  rw [hW] at hrun
  rw [e9] at hrun hS hB
  clear e9
  replace hrun := hid hrun
  replace hS := hid hS
  replace hB := hid hB
  replace hi := hid hi
  replace hz0 := hid hz0
  replace hz1 := hid hz1
  replace hz2 := hid hz2
  clear hq hgr hv hb9 hO hat hb1 hsl hW h
  go_enter Try.func31, Try.ntmps31
  go_wp2_with fail
  go_region_law (first
    | (refine step_ap3 (by rfl) (.tmp 10) (.tmp 27) 61 (by rfl) (by rfl) tv (.slice (some ⟨w.heap.size, 0, none⟩) 1 1) _ (by rfl) (by rfl) hrun.out ?_))
  all_goals
    go_wp2
    go_end0
    exact ⟨_, rfl, ⟨_, hS.out⟩, hB.out⟩

end Go.Proofs.Ythjggjjocfbjcaa
