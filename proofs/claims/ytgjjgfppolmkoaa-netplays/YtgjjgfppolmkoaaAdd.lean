/- What the net's add does. -/
import Derived.Test.YtgjjgfppolmkoaaFind
import Derived.Deep.RegionLaw
namespace Go.Proofs.Ytgjjgfppolmkoaa
open Go.RowKit Go.Maps

theorem wf_i {k : Int} (h0 : -9223372036854775808 ≤ k) (h1 : k ≤ 9223372036854775807) : (Lit.int .i64 k).wf = true := by
  have e0 : IntKind.i64.min = -9223372036854775808 := by decide
  have e1 : IntKind.i64.max = 9223372036854775807 := by decide
  simp [Lit.wf, e0, e1, h0, h1]

theorem NAt.setLast {w : World} {p m last : Nat} {L : List Pk} (h : NAt w p m L last) (n : Nat) (hn : last ≤ n) : NAt (w.setCell ⟨p, 1, none⟩ (.int .i64 (n : Int))) p m L n := by
  have hk : Kp (fun k => k = p) w (w.setCell ⟨p, 1, none⟩ (.int .i64 (n : Int))) := Kp.setCell (S := fun k => k = p) (p := ⟨p, 1, none⟩) (Kp.refl _ _) rfl _
  refine ⟨?_, own_kp h.own hk (fun e => h.ne e.symm), h.rise, fun q hq => ⟨(h.nums q hq).1, by have := (h.nums q hq).2; omega⟩, h.bodies.kp hk (fun q hq x hx => (h.off q hq x hx).1), h.off⟩
  have hb := h.blk
  rw [setCell_eq_setRow w p 1 _ 56 (0, 0) _ hb, setRow_heap w p _ _ 56 _ hb]
  simp

set_option maxRecDepth 100000 in
set_option maxHeartbeats 400000 in
theorem add_any {p m last : Nat} {L : List Pk} (n0 fr to : Int) (a : Option Addr) (c len : Nat) (body : List UInt8) (w : World) (h : NAt w p m L last) (hl : body.length = len) (hlen : len ≤ 65545) (hlast : last < 4611686018427387904) (hL : L.length < 1000000) (hat : At w a body) (hoff : ∀ x, a = some x → x.block ≠ p ∧ x.block ≠ m ∧ x.block < w.heap.size) :
    Calls Try.prog 33 #[.pointer (some ⟨p, 0, none⟩), .agg #[.int .i64 n0, .int .i64 fr, .int .i64 to, .slice a len c]] w fun e w' => e = .returned (.int .i64 ((last + 1 : Nat) : Int)) ∧ NAt w' p m (L ++ [⟨(last + 1 : Nat), fr, to, a, c, body⟩]) (last + 1) ∧ Kp (fun k => k = p ∨ k = m) w w' := by
  have c1 := h.c1
  have f1 := h.free 1
  have h2 := h.setLast (last + 1) (by omega)
  have hk2 : Kp (fun k => k = p ∨ k = m) w (w.setCell ⟨p, 1, none⟩ (.int .i64 ((last + 1 : Nat) : Int))) := Kp.setCell (S := fun k => k = p ∨ k = m) (p := ⟨p, 1, none⟩) (Kp.refl _ _) (.inl rfl) _
  have ei : ((last + 1 : Nat) : Int) = (last : Int) + 1 := by omega
  have hlt := h.lt
  have hne : p ≠ w.heap.size := by omega
  have d0 := h2.c0
  have d1 := h2.c1
  have dlt := h2.lt
  rw [ei] at d0 d1 h2 hk2
  have hsz : (w.setCell ⟨p, 1, none⟩ (.int .i64 ((last : Int) + 1))).heap.size = w.heap.size := by simp [World.setCell]
  replace ei := hid ei
  replace h2 := hid h2
  go_enter Try.func33, Try.ntmps33
  go_wp2_with fail
  have bl := below_lit (w.setCell ⟨p, 1, none⟩ (.int .i64 ((last : Int) + 1))) (.cells #[.int .i64 ((last : Int) + 1), .int .i64 fr, .int .i64 to, .slice a len c] 31)
  have h3 := h2.out.below bl
  have q3 := PBlk.new (w.setCell ⟨p, 1, none⟩ (.int .i64 ((last : Int) + 1))) (.int .i64 ((last : Int) + 1)) (.int .i64 fr) (.int .i64 to) (.slice a len c)
  have k3 := hk2.trans (Kp.of_below bl)
  rw [hsz] at q3
  generalize (w.setCell ⟨p, 1, none⟩ (.int .i64 ((last : Int) + 1))).alloc (.cells #[.int .i64 ((last : Int) + 1), .int .i64 fr, .int .i64 to, .slice a len c] 31) = w3 at h3 q3 k3 ⊢
  clear d0 d1 dlt hsz bl hk2 h2 c1 f1
  have x0 := h3.c0
  have y0 := q3.cell0
  have y1 := q3.cell1
  have y2 := q3.cell2
  have y3 := q3.cell3
  have hown : w3.drew.ownsMap Try.prog 3 RV m L.length (mapOf L) := h3.own
  have hwf : (Lit.int .i64 ((last : Int) + 1)).wf = true := wf_i (by omega) (by omega)
  have hmax : L.length < maxLen := by unfold maxLen; omega
  obtain ⟨w4, hrun, ho4, hg4⟩ := hown.update law3 Try.underlying54 hmax (key_ok hwf) (val := .agg #[.int .i64 ((last : Int) + 1), .int .i64 fr, .int .i64 to, .slice a len c]) (d := .held (.agg #[.int .i64 ((last : Int) + 1), .int .i64 fr, .int .i64 to, .slice a len c])) (ps := []) rfl
  have hg5 : w3.grownBy w4 (some m) := ⟨hg4.os, hg4.tape, hg4.output, hg4.size, hg4.block⟩
  have q4 : w4.cell? ⟨w.heap.size, 0, none⟩ = some (.int .i64 ((last : Int) + 1)) := by
    have hm := h3.own.lt
    rw [World.cell?_of_block (w := w3) (a := ⟨w.heap.size, 0, none⟩) (hg5.block w.heap.size q3.lt (fun e => by
      have e := Option.some.inj e
      obtain ⟨es, clock, hb, _⟩ := h3.own
      have := q3
      unfold PBlk at this
      rw [e, hb] at this
      simp at this))]
    exact y0
  replace h3 := hid h3
  replace q3 := hid q3
  replace hl := hid hl
  replace ho4 := hid ho4
  replace hg4 := hid hg5
  clear hg5
  go_region
  go_wp2
  go_ret
  have h3 := h3.out
  have ho4 := ho4.out
  have k4 := Kp.grown hg4.out
  have hl := hl.out
  subst hl
  have e2 : (mapOf L).put (.int .i64 ((last : Int) + 1)) (.held (.agg #[.int .i64 ((last : Int) + 1), .int .i64 fr, .int .i64 to, .slice a body.length c])) = mapOf (L ++ [⟨(last : Int) + 1, fr, to, a, c, body⟩]) := mapOf_put L ⟨(last : Int) + 1, fr, to, a, c, body⟩ (fun q hq => by have := (h.nums q hq).2; show q.num < (last : Int) + 1; omega)
  rw [e2] at ho4
  have ei := ei.out
  rw [ei]
  refine ⟨rfl, ⟨(k4.block p h3.lt (fun e => h3.ne (Option.some.inj e).symm)).trans (by rw [ei]; exact h3.blk), by simpa using ho4, h3.rise.snoc (fun q hq => by have := (h.nums q hq).2; show q.num < (last : Int) + 1; omega), ?_, ?_, ?_⟩, ?_⟩
  · intro q hq
    rcases List.mem_append.1 hq with hq | hq
    · have := h.nums q hq; omega
    · simp at hq; subst hq; exact ⟨by show 1 ≤ (last : Int) + 1; omega, by show (last : Int) + 1 ≤ _; omega⟩
  · refine ⟨fun q hq => ?_, fun q hq x hx => ?_, fun q hq => ?_⟩
    · rcases List.mem_append.1 hq with hq | hq
      · exact (h3.bodies.at_ q hq).kp k4 (fun x hx e => (h3.off q hq x hx).2 (Option.some.inj e).symm)
      · simp at hq; subst hq
        exact (hat.kp k3 (fun x hx e => e.elim (hoff x hx).1 (hoff x hx).2.1)).kp k4 (fun x hx e => (hoff x hx).2.1 (Option.some.inj e).symm)
    · have z3 := k3.size
      have z4 := k4.size
      rcases List.mem_append.1 hq with hq | hq
      · have := h3.bodies.lt q hq x hx; omega
      · simp at hq; subst hq
        have := (hoff x hx).2.2; omega
    · rcases List.mem_append.1 hq with hq | hq
      · exact h3.bodies.short q hq
      · simp at hq; subst hq; exact hlen
  · intro q hq x hx
    rcases List.mem_append.1 hq with hq | hq
    · exact h3.off q hq x hx
    · simp at hq; subst hq; exact ⟨(hoff x hx).1, (hoff x hx).2.1⟩
  · exact k3.next k4 (fun k _ e => .inr (Option.some.inj e).symm)
end Go.Proofs.Ytgjjgfppolmkoaa
