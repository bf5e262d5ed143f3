/- What Drop, Double and Copy do. -/
import Derived.Test.YtgjjgfppolmkoaaOps2
namespace Go.Proofs.Ytgjjgfppolmkoaa
open Go.RowKit Go.Maps

set_option maxRecDepth 100000 in
set_option maxHeartbeats 400000 in
theorem drop_yes {p m last : Nat} {L : List Pk} (k : Int) (q : Pk) (w : World) (h : NAt w p m L last) (hk : (Lit.int .i64 k).wf = true) (hf : findP L k = some q) :
    Calls Try.prog 12 #[.pointer (some ⟨p, 0, none⟩), .int .i64 k] w fun e w' => e = .returned (.int .i64 0) ∧ NAt w' p m (delP L k) last ∧ Kp (Turn p m) w w' := by
  have hfind := find_yes k q _ h hk hf
  unfold Pk.val at hfind
  obtain ⟨num, fr, to, a, c, body⟩ := q
  simp only at hfind
  generalize body.length = len at hfind
  go_enter Try.func12, Try.ntmps12
  go_wp2_with fail
  refine hfind.mono ?_
  rintro e w1 ⟨rfl, hb1⟩
  have bl := below_lit w1 (.cells #[.int .i64 num, .int .i64 fr, .int .i64 to, .slice a len c] 31)
  have h2 := (h.below hb1).below bl
  have c0 := h2.c0
  have B2 := bnext hb1 bl
  replace h2 := hid h2
  replace hfind := hid hfind
  go_wp2_with (at_delete; refine wpList_delete_own _ rfl _ _ 54 3 rfl 31 law3 Try.underlying54 RV m L.length (mapOf L) rfl h2.out.own _ _ rfl (key_ok hk) ?_; intro w3 ho3 ht3)
  go_ret
  obtain ⟨h3, k3⟩ := h2.out.deleted ho3 ht3
  exact ⟨rfl, h3, (Kp.of_below B2).trans k3⟩

set_option maxRecDepth 100000 in
set_option maxHeartbeats 400000 in
theorem drop_bad (v : Value) (k ec : Int) (w : World) (he : (ec != 0) = true) (hfind : Calls Try.prog 35 #[v, .int .i64 k] w fun e w' => e = .returned (.tuple #[zeroV, .int .i64 ec]) ∧ Below w.heap.size w w') :
    Calls Try.prog 12 #[v, .int .i64 k] w fun e w' => e = .returned (.int .i64 ec) ∧ Below w.heap.size w w' := by
  unfold zeroV at hfind
  go_enter Try.func12, Try.ntmps12
  go_wp2_with fail
  refine hfind.mono ?_
  rintro e w1 ⟨rfl, hb1⟩
  have bl := below_lit w1 (.cells #[.int .i64 0, .int .i64 0, .int .i64 0, .slice none 0 0] 31)
  replace hfind := hid hfind
  go_wp2
  go_ret
  exact ⟨rfl, bnext hb1 bl⟩

set_option maxRecDepth 100000 in
set_option maxHeartbeats 400000 in
theorem double_yes {p m last : Nat} {L : List Pk} (k : Int) (q : Pk) (w : World) (h : NAt w p m L last) (hk : (Lit.int .i64 k).wf = true) (hf : findP L k = some q) (hlast : last < 4611686018427387904) (hL : L.length < 256) :
    Calls Try.prog 11 #[.pointer (some ⟨p, 0, none⟩), .int .i64 k] w fun e w' => e = .returned (.tuple #[.int .i64 ((last + 1 : Nat) : Int), .int .i64 0]) ∧ NAt w' p m (L ++ [⟨(last + 1 : Nat), q.fr, q.to, q.a, q.c, q.body⟩]) (last + 1) ∧ Kp (Turn p m) w w' := by
  have hfind := find_yes k q _ h hk hf
  have hqm := (find_mem hf).1
  have hat := h.bodies.at_ q hqm
  have hsh := h.bodies.short q hqm
  have hoff := h.off q hqm
  have hblt := h.bodies.lt q hqm
  have d2 : decide (256 ≤ L.length) = false := decide_eq_false (by omega)
  unfold Pk.val at hfind
  obtain ⟨num, fr, to, a, c, body⟩ := q
  simp only at hfind hat hsh hoff hblt ⊢
  obtain ⟨len, hl⟩ : ∃ n, body.length = n := ⟨_, rfl⟩
  rw [hl] at hfind hsh
  replace hl := hid hl
  go_enter Try.func11, Try.ntmps11
  go_wp2_with fail
  refine hfind.mono ?_
  rintro e w1 ⟨rfl, hb1⟩
  have bl := below_lit w1 (.cells #[.int .i64 num, .int .i64 fr, .int .i64 to, .slice a len c] 31)
  have h2 := (h.below hb1).below bl
  have q2 := PBlk.new w1 (.int .i64 num) (.int .i64 fr) (.int .i64 to) (.slice a len c)
  have B2 := bnext hb1 bl
  have hat2 := (hat.below hb1).below bl
  have y0 := q2.cell0
  have y1 := q2.cell1
  have y2 := q2.cell2
  have y3 := q2.cell3
  replace h2 := hid h2
  replace hfind := hid hfind
  replace q2 := hid q2
  go_wp2_with fail
  refine (isfull_any _ h2.out).mono ?_
  rintro e w2 ⟨rfl, rfl⟩
  rw [d2]
  go_wp2_with fail
  refine (add_any num fr to a c len body _ h2.out hl.out hsh hlast (by omega) hat2 (fun x hx => ⟨(hoff x hx).1, (hoff x hx).2, Nat.lt_of_lt_of_le (hblt x hx) B2.size⟩)).mono ?_
  rintro e w3 ⟨rfl, h3, k3⟩
  replace h3 := hid h3
  go_wp2
  go_ret2
  exact ⟨rfl, h3.out, (Kp.of_below B2).trans k3⟩

set_option maxRecDepth 100000 in
set_option maxHeartbeats 400000 in
theorem double_full {p m last : Nat} {L : List Pk} (k : Int) (q : Pk) (w : World) (h : NAt w p m L last) (hk : (Lit.int .i64 k).wf = true) (hf : findP L k = some q) (hL : 256 ≤ L.length) :
    Calls Try.prog 11 #[.pointer (some ⟨p, 0, none⟩), .int .i64 k] w fun e w' => e = .returned (.tuple #[.int .i64 0, .int .i64 5]) ∧ Below w.heap.size w w' := by
  have hfind := find_yes k q _ h hk hf
  have d2 : decide (256 ≤ L.length) = true := decide_eq_true (by omega)
  unfold Pk.val at hfind
  obtain ⟨num, fr, to, a, c, body⟩ := q
  simp only at hfind
  generalize body.length = len at hfind
  go_enter Try.func11, Try.ntmps11
  go_wp2_with fail
  refine hfind.mono ?_
  rintro e w1 ⟨rfl, hb1⟩
  have bl := below_lit w1 (.cells #[.int .i64 num, .int .i64 fr, .int .i64 to, .slice a len c] 31)
  have h2 := (h.below hb1).below bl
  have B2 := bnext hb1 bl
  replace h2 := hid h2
  replace hfind := hid hfind
  go_wp2_with fail
  refine (isfull_any _ h2.out).mono ?_
  rintro e w2 ⟨rfl, rfl⟩
  rw [d2]
  go_wp2
  go_ret2
  exact ⟨rfl, B2⟩

set_option maxRecDepth 100000 in
set_option maxHeartbeats 400000 in
theorem double_bad (v : Value) (k ec : Int) (w : World) (he : (ec != 0) = true) (hfind : Calls Try.prog 35 #[v, .int .i64 k] w fun e w' => e = .returned (.tuple #[zeroV, .int .i64 ec]) ∧ Below w.heap.size w w') :
    Calls Try.prog 11 #[v, .int .i64 k] w fun e w' => e = .returned (.tuple #[.int .i64 0, .int .i64 ec]) ∧ Below w.heap.size w w' := by
  unfold zeroV at hfind
  go_enter Try.func11, Try.ntmps11
  go_wp2_with fail
  refine hfind.mono ?_
  rintro e w1 ⟨rfl, hb1⟩
  have bl := below_lit w1 (.cells #[.int .i64 0, .int .i64 0, .int .i64 0, .slice none 0 0] 31)
  replace hfind := hid hfind
  go_wp2
  go_ret2
  exact ⟨rfl, bnext hb1 bl⟩

theorem copy_none (v : Value) (w : World) (h : NNone w v) : Calls Try.prog 23 #[v] w fun e w' => e = .returned (.pointer none) ∧ w' = w := by
  go_enter Try.func23, Try.ntmps23
  go_wp2_with fail
  refine (isone_none _ _ h).mono ?_
  rintro e w1 ⟨rfl, rfl⟩
  go_wp2
  go_ret
  exact ⟨rfl, rfl⟩

set_option maxRecDepth 100000 in
set_option maxHeartbeats 400000 in
theorem copyn_any {p m last : Nat} {L : List Pk} (w : World) (h : NAt w p m L last) :
    Calls Try.prog 23 #[.pointer (some ⟨p, 0, none⟩)] w fun e w' => ∃ p' m', e = .returned (.pointer (some ⟨p', 0, none⟩)) ∧ w.heap.size ≤ p' ∧ w.heap.size ≤ m' ∧ NAt w' p' m' L last ∧ Below w.heap.size w w' := by
  have hd : NAt w.drew p m L last := h.below ((Below.refl _ w).drew)
  go_enter Try.func23, Try.ntmps23
  go_wp2_with fail
  refine (isone_yes _ h).mono ?_
  rintro e w1 ⟨rfl, rfl⟩
  have c0 := hd.c0
  have c1 := hd.c1
  have d0 := h.c0
  have d1 := h.c1
  go_wp2_with fail
  go_region_with (go_at_call 42; refine (clone_any 3 m L.length (mapOf L) RV _ hd.own).mono ?_; rintro e w2 ⟨m', rfl, hm', ho2, hb2⟩; have e1 := (hd.below hb2).c1; have e0 := (hd.below hb2).c0)
  all_goals
    go_wp2
    go_ret
    have bl := below_lit w2 (.cells #[.map (some m'), .int .i64 (last : Int)] 56)
    have B : Below w1.heap.size w1 _ := bnext (bnext ((Below.refl _ w1).drew) hb2) bl
    have hz := hb2.size
    have hz1 : w1.drew.heap.size = w1.heap.size := rfl
    have hh := (h.below B).bodies
    refine ⟨w2.heap.size, m', rfl, by omega, by omega, ⟨heap_alloc_new w2 _, own_kp (S := fun _ => False) ho2 (Kp.of_below bl) (fun h => h), h.rise, h.nums, hh, fun q hq x hx => ?_⟩, B⟩
    have := h.bodies.lt q hq x hx
    omega
end Go.Proofs.Ytgjjgfppolmkoaa
