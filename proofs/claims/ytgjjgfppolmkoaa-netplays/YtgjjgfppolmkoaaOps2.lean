/- What Deliver, Drop, Double and Copy do. -/
import Derived.Test.YtgjjgfppolmkoaaOps
namespace Go.Proofs.Ytgjjgfppolmkoaa
open Go.RowKit Go.Maps

theorem NAt.deleted {w w' : World} {p m last n : Nat} {L : List Pk} {k : Int} (h : NAt w p m L last) (ho : w'.ownsMap Try.prog 3 RV m n ((mapOf L).del (.int .i64 k))) (ht : w.mapTurned w' m) : NAt w' p m (delP L k) last ∧ Kp (Turn p m) w w' := by
  have kg := Kp.grown ht.grown
  have hk : Kp (Turn p m) w w' := kg.mono (fun i _ e => .inr (Option.some.inj e).symm)
  rw [mapOf_del] at ho
  refine ⟨⟨(kg.block p h.lt (fun e => h.ne (Option.some.inj e).symm)).trans h.blk, ?_, h.rise.del k, fun q hq => h.nums q (mem_del hq), ?_, fun q hq => h.off q (mem_del hq)⟩, hk⟩
  · have := ownsMap_tight ho
    rw [mapOf_size] at this
    exact this
  · exact (h.bodies.kp kg (fun q hq x hx e => (h.off q hq x hx).2 (Option.some.inj e).symm)).sub (fun q hq => mem_del hq)

theorem kp_set4 (w : World) (g : Nat) (x y z s : Value) : Kp (fun k => k = g) w ((((w.setCell ⟨g, 0, none⟩ x).setCell ⟨g, 1, none⟩ y).setCell ⟨g, 2, none⟩ z).setCell ⟨g, 3, none⟩ s) :=
  Kp.setCell (S := fun k => k = g) (p := ⟨g, 3, none⟩) (Kp.setCell (S := fun k => k = g) (p := ⟨g, 2, none⟩) (Kp.setCell (S := fun k => k = g) (p := ⟨g, 1, none⟩) (Kp.setCell (S := fun k => k = g) (p := ⟨g, 0, none⟩) (Kp.refl _ _) rfl x) rfl y) rfl z) rfl s

theorem PBlk.turned {w w' : World} {p m last : Nat} {L : List Pk} {g : Nat} {x y z s : Value} (hq : PBlk w g x y z s) (h : NAt w p m L last) (ht : w.mapTurned w' m) : PBlk w' g x y z s := by
  unfold PBlk
  rw [ht.grown.block g hq.lt (fun e => by
    have e := Option.some.inj e
    obtain ⟨es, clock, hb, _⟩ := h.own
    unfold PBlk at hq
    rw [e, hb] at hq
    simp at hq)]
  exact hq

set_option maxRecDepth 100000 in
set_option maxHeartbeats 400000 in
theorem deliver_yes {p m last : Nat} {L : List Pk} (k : Int) (q : Pk) (w : World) (h : NAt w p m L last) (hk : (Lit.int .i64 k).wf = true) (hf : findP L k = some q) :
    Calls Try.prog 13 #[.pointer (some ⟨p, 0, none⟩), .int .i64 k] w fun e w' => ∃ a' c', e = .returned (.tuple #[.agg #[.int .i64 q.num, .int .i64 q.fr, .int .i64 q.to, .slice a' q.body.length c'], .int .i64 0]) ∧ Own w' w.heap.size (.slice a' q.body.length c') q.body ∧ NAt w' p m (delP L k) last ∧ Kp (Turn p m) w w' := by
  have b1 := below_lit w (.cells #[.int .i64 0, .int .i64 0, .int .i64 0, .slice none 0 0] 31)
  have h1 := h.below b1
  have p1 := PBlk.new w (.int .i64 0) (.int .i64 0) (.int .i64 0) (.slice none 0 0)
  have hfind := find_yes k q _ h1 hk hf
  have hqm := (find_mem hf).1
  have hat := h1.bodies.at_ q hqm
  have hsh := h1.bodies.short q hqm
  have hoff := h1.off q hqm
  unfold Pk.val at hfind
  obtain ⟨num, fr, to, a, c, body⟩ := q
  simp only at hfind hat hsh hoff ⊢
  obtain ⟨len, hl⟩ : ∃ n, body.length = n := ⟨_, rfl⟩
  rw [hl] at hfind hsh ⊢
  replace hl := hid hl
  replace p1 := hid p1
  go_enter Try.func13, Try.ntmps13
  go_wp2_with fail
  refine hfind.mono ?_
  rintro e w1 ⟨rfl, hb1⟩
  have bl := below_lit w1 (.cells #[.int .i64 num, .int .i64 fr, .int .i64 to, .slice a len c] 31)
  have h2 := (h1.below hb1).below bl
  have q2 := PBlk.new w1 (.int .i64 num) (.int .i64 fr) (.int .i64 to) (.slice a len c)
  have p2 := (p1.out.below hb1).below bl
  have hat2 := (hat.below hb1).below bl
  have c0 := h2.c0
  have B2 := bnext b1 (bnext hb1 bl)
  replace q2 := hid q2
  replace p2 := hid p2
  replace h2 := hid h2
  replace hfind := hid hfind
  go_wp2_with (at_delete; refine wpList_delete_own _ rfl _ _ 54 3 rfl 31 law3 Try.underlying54 RV m L.length (mapOf L) rfl h2.out.own _ _ rfl (key_ok hk) ?_; intro w3 ho3 ht3; have q3 := q2.out.turned h2.out ht3; have y0 := q3.cell0; have y1 := q3.cell1; have y2 := q3.cell2; have y3 := q3.cell3)
  obtain ⟨h3, k3⟩ := h2.out.deleted ho3 ht3
  have hat3 := hat2.kp k3 (fun x hx e => e.elim (hoff x hx).1 (hoff x hx).2)
  refine (handed_any num fr to a c len body _ hl.out (by omega) hat3).mono ?_
  rintro e w4 ⟨a', c', rfl, ho4, hb4⟩
  have h4 := h3.below hb4
  have p4 := (p2.out.turned h2.out ht3).below hb4
  have z0 := p4.cell0
  have z1 := p4.cell1
  have z2 := p4.cell2
  have z3 := p4.cell3
  have f0 := p4.free 0
  have f1 := p4.free 1
  have f2 := p4.free 2
  have f3 := p4.free 3
  have r4 := hid (p4.set (.int .i64 num) (.int .i64 fr) (.int .i64 to) (.slice a' len c'))
  have K4 : Kp (Turn p m) w w4 := ((Kp.of_below B2).trans k3).then hb4
  have hks := kp_set4 w4 w.heap.size (.int .i64 num) (.int .i64 fr) (.int .i64 to) (.slice a' len c')
  have hsz : w.heap.size < w3.heap.size := by have := p2.out.lt; have := k3.size; omega
  replace hks := hid hks
  replace p4 := hid p4
  replace h4 := hid h4
  replace h3 := hid h3
  replace ho4 := hid ho4
  clear y0 y1 y2 y3 c0
  go_wp2
  (try simp only [Exit.inBlock, Exit.then])
  refine bodyPost_ret (results_p2 rfl _ _ w.heap.size _ _ _ _ rfl r4.out) rfl ?_
  have hlt := h.lt
  have hml := h.own.lt
  refine ⟨a', c', rfl, (ho4.out.kp hks.out (fun k hk e => by have := (ho4.out.lt k hk).1; omega)).le (by omega), h4.out.kp hks.out (by omega) (by omega) (fun q hq x hx e => ?_), K4.next hks.out (fun i hi e => by omega)⟩
  have := h.bodies.lt q (mem_del hq) x hx
  omega

set_option maxRecDepth 100000 in
set_option maxHeartbeats 400000 in
theorem deliver_bad (v : Value) (k ec : Int) (w : World) (he : (ec != 0) = true) (hfind : ∀ w1, Below w.heap.size w w1 → Calls Try.prog 35 #[v, .int .i64 k] w1 fun e w' => e = .returned (.tuple #[zeroV, .int .i64 ec]) ∧ Below w1.heap.size w1 w') :
    Calls Try.prog 13 #[v, .int .i64 k] w fun e w' => e = .returned (.tuple #[zeroV, .int .i64 ec]) ∧ Below w.heap.size w w' := by
  have b1 := below_lit w (.cells #[.int .i64 0, .int .i64 0, .int .i64 0, .slice none 0 0] 31)
  have p1 := PBlk.new w (.int .i64 0) (.int .i64 0) (.int .i64 0) (.slice none 0 0)
  replace hfind := hfind _ b1
  unfold zeroV at hfind ⊢
  replace p1 := hid p1
  go_enter Try.func13, Try.ntmps13
  go_wp2_with fail
  refine hfind.mono ?_
  rintro e w1 ⟨rfl, hb1⟩
  have p2 := p1.out.below hb1
  have z0 := p2.cell0
  have z1 := p2.cell1
  have z2 := p2.cell2
  have z3 := p2.cell3
  have f0 := p2.free 0
  have f1 := p2.free 1
  have f2 := p2.free 2
  have f3 := p2.free 3
  have hlt := p2.lt
  have B2 := bnext b1 hb1
  have B4 := below_set4 B2 w.heap.size (Nat.le_refl _) (.int .i64 0) (.int .i64 0) (.int .i64 0) (.slice none 0 0)
  have r4 := hid ((p2.set (.int .i64 0) (.int .i64 0) (.int .i64 0) (.slice none 0 0)).below (below_lit _ (.cells #[.int .i64 0, .int .i64 0, .int .i64 0, .slice none 0 0] 31)))
  replace B4 := hid (bnext B4 (below_lit _ (.cells #[.int .i64 0, .int .i64 0, .int .i64 0, .slice none 0 0] 31)))
  replace p2 := hid p2
  replace hfind := hid hfind
  go_wp2
  (try simp only [Exit.inBlock, Exit.then])
  refine bodyPost_ret (results_p2 rfl _ _ w.heap.size _ _ _ _ rfl r4.out) rfl ?_
  exact ⟨rfl, B4.out⟩
end Go.Proofs.Ytgjjgfppolmkoaa
