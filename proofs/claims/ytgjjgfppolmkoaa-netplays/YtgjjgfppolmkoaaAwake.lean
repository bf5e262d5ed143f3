/- The chapter's example comes out as written. -/
import Derived.Test.YtgjjgfppolmkoaaList
import Derived.Lib.SlBytesConst
namespace Go.Proofs.Ytgjjgfppolmkoaa
open Go.RowKit Go.Maps

theorem NAt.pblk {w w' : World} {p m last : Nat} {L : List Pk} {g : Nat} {x y z s : Value} (h : NAt w p m L last) (hq : PBlk w g x y z s) (hg : p < g) (hk : Kp (Turn p m) w w') : PBlk w' g x y z s := by
  unfold PBlk
  rw [hk.block g hq.lt (fun e => by
    rcases e with e | e
    · omega
    · obtain ⟨es, clock, hb, _⟩ := h.own
      unfold PBlk at hq
      rw [e, hb] at hq
      simp at hq)]
  exact hq

theorem own_turn {w w' : World} {p m : Nat} {base : Nat} {v : Value} {l : List UInt8} (ho : Own w base v l) (hp : p < base) (hm : m < base) (hk : Kp (Turn p m) w w') : Own w' base v l :=
  ho.kp hk (fun k hk' e => by have := (ho.lt k hk').1; rcases e with e | e <;> omega)

theorem at_mark (w : World) (l : List UInt8) (cs : Array Value) (m : Nat × Nat) (h : cs = (l.map B).toArray) : At (w.alloc (.cells cs 5 m)) (some ⟨w.heap.size, 0, none⟩) l := by
  subst h
  refine fun _ => ⟨w.heap.size, 0, rfl, fun i hi => ?_⟩
  have hh : (w.alloc (.cells (l.map B).toArray 5 m)).heap[w.heap.size]? = some (.cells (l.map B).toArray 5 m) := by
    show (w.heap.push _)[w.heap.size]? = _
    simp
  rw [Nat.zero_add]
  unfold World.cell?
  simp only [hh]
  simp [hi, B]

theorem const_run (w : World) (C : Array Value) (n c : Nat) : (convert 27 27 (.slice (some ⟨w.heap.size, 0, none⟩) n c)).run Try.prog (w.alloc (.cells C 5)) = .ok (.slice (some ⟨w.heap.size, 0, none⟩) n c) (w.alloc (.cells C 5 (C.size, C.size + 1))) :=
  Lib.run_convert_bytes_const (P := Try.prog) w 27 5 C n c Try.underlying27 Try.underlying5

set_option maxRecDepth 100000 in
set_option maxHeartbeats 1000000 in
theorem awake_any (w : World) : Calls Try.prog 15 #[] w fun e w' => e = .returned (.bool true) ∧ Below w.heap.size w w' := by
  have kc := const_run
  go_enter Try.func15, Try.ntmps15
  go_wp2_with fail
  refine (new_any _).mono ?_
  rintro e w1 ⟨p, m, rfl, hp, hm, h1, b1⟩
  go_wp2_with fail
  have bl1 := below_lit w1 (.cells #[.int .u8 97] 5 (1, 2))
  refine (send_ok 1 2 (some ⟨w1.heap.size, 0, none⟩) 1 1 [97] _ (h1.below bl1) rfl (by omega) (by omega) (by simp) (at_mark w1 [97] _ _ rfl)).mono ?_
  rintro e w2 ⟨⟨n1, f1, t1, a1, c1, d1⟩, rfl, e1, e2, e3, e4, o1, h2, k2⟩
  simp only at e1 e2 e3 e4 o1
  subst e1 e2 e3 e4
  have B2 : Kp (Turn p m) w1 w2 := (Kp.of_below bl1).trans k2
  clear h1
  go_wp2_with fail
  have bl2 := below_lit w2 (.cells #[.int .u8 98] 5 (1, 2))
  refine (send_ok 2 1 (some ⟨w2.heap.size, 0, none⟩) 1 1 [98] _ (h2.below bl2) rfl (by omega) (by omega) (by simp) (at_mark w2 [98] _ _ rfl)).mono ?_
  rintro e w3 ⟨⟨n2, f2, t2, a2, c2, d2⟩, rfl, e1, e2, e3, e4, o2, h3, k3⟩
  simp only at e1 e2 e3 e4 o2
  subst e1 e2 e3 e4
  have B3 : Kp (Turn p m) w1 w3 := B2.trans ((Kp.of_below bl2).trans k3)
  clear h2
  go_wp2_with fail
  refine (double_yes 1 ⟨1, 1, 2, a1, c1, [97]⟩ _ h3 (wf_i (by omega) (by omega)) rfl (by omega) (by simp)).mono ?_
  rintro e w4 ⟨rfl, h4, k4⟩
  have B4 := B3.trans k4
  clear h3
  go_wp2_with fail
  refine (deliver_yes 3 ⟨3, 1, 2, a1, c1, [97]⟩ _ h4 (wf_i (by omega) (by omega)) rfl).mono ?_
  rintro e w5 ⟨a5, c5, rfl, ho5, h5, k5⟩
  have B5 := B4.trans k5
  have hp4 := h4.lt
  have hm4 := h4.own.lt
  clear h4
  have h5 : NAt w5 p m [⟨1, 1, 2, a1, c1, [97]⟩, ⟨2, 2, 1, a2, c2, [98]⟩] 3 := h5
  simp only [List.length_cons, List.length_nil, Nat.zero_add] at ho5 ⊢
  have bl5 := below_lit w5 (.cells #[.int .i64 3, .int .i64 1, .int .i64 2, .slice a5 1 c5] 31)
  have q6 := PBlk.new w5 (.int .i64 3) (.int .i64 1) (.int .i64 2) (.slice a5 1 c5)
  have h6 := h5.below bl5
  have ho6 := ho5.below bl5
  replace q6 := hid q6
  replace ho6 := hid ho6
  go_wp2_with fail
  refine (deliver_bad _ 3 80 _ rfl (fun w1 hb => find_no 3 _ (h6.below hb) (wf_i (by omega) (by omega)) rfl)).mono ?_
  rintro e w6 ⟨rfl, hb6⟩
  unfold zeroV
  have bl6 := below_lit w6 (.cells #[.int .i64 0, .int .i64 0, .int .i64 0, .slice none 0 0] 31)
  have h7 := (h6.below hb6).below bl6
  have q7 := hid ((q6.out.below hb6).below bl6)
  have ho7 := hid ((ho6.out.below hb6).below bl6)
  have B7 := ((B5.then bl5).then hb6).then bl6
  have hz5 := k5.size
  have hz6 := (bnext bl5 (bnext hb6 bl6)).size
  replace h6 := hid h6
  go_wp2_with fail
  refine (drop_yes 1 ⟨1, 1, 2, a1, c1, [97]⟩ _ h7 (wf_i (by omega) (by omega)) rfl).mono ?_
  rintro e w7 ⟨rfl, h8, k8⟩
  have h8 : NAt w7 p m [⟨2, 2, 1, a2, c2, [98]⟩] 3 := h8
  have q8 := hid (h7.pblk q7.out (by omega) k8)
  have ho8 := hid (own_turn ho7.out hp4 hm4 k8)
  have B8 := B7.trans k8
  replace h7 := hid h7
  go_wp2_with fail
  refine (list_any _ h8 (by simp) (by omega)).mono ?_
  rintro e w8 ⟨v, Q, rfl, hQ, hP, hb8⟩
  have B9 : Below w.heap.size w w8 := b1.trans ((B8.then hb8).below (fun k e => by rcases e with e | e <;> omega) b1.size)
  obtain ⟨qq, rfl⟩ : ∃ q, Q = [q] := by
    have := congrArg List.length hQ
    simp at this
    exact List.length_eq_one_iff.1 this
  have hnum : qq.num = 2 := by
    simp [Pk.flat] at hQ
    exact hQ.1
  have hrow := hP.row
  obtain ⟨la, lc, rfl, _⟩ := owns_form hrow
  obtain ⟨lb, lo, rfl, hc⟩ := owns_cat hrow (by simp [Pk.cells])
  have y0 := hc 0 (by simp [Pk.cells])
  have y1 : w8.cell? ⟨lb, lo, none⟩ = some (.int .i64 2) := by
    rw [Nat.add_zero] at y0
    rw [y0]
    simp [Pk.cells, hnum]
  have q9 := q8.out.below hb8
  have x0 := q9.cell0
  have x1 := q9.cell1
  have x2 := q9.cell2
  have x3 := q9.cell3
  have cv := conv_run w8 a5 [97] 1 c5 rfl ((own_at ho8.out).below hb8)
  replace hQ := hid hQ
  replace hnum := hid hnum
  replace hrow := hid hrow
  replace hP := hid hP
  replace hc := hid hc
  replace y0 := hid y0
  replace h8 := hid h8
  simp only [List.length_cons, List.length_nil, Nat.zero_add] at hrow ⊢
  go_wp2
  go_ret
  exact ⟨rfl, B9⟩
end Go.Proofs.Ytgjjgfppolmkoaa
