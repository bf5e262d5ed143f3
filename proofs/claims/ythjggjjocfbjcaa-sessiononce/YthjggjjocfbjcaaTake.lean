/- Take. -/
import Derived.Test.YthjggjjocfbjcaaAsk
namespace Go.Proofs.Ythjggjjocfbjcaa
open Go.RowKit

/-- The answer of Take lies in memory as the plain one says. -/
def TakePost (R : PA × Bool × Int) (w : World) (e : Ending) (w' : World) : Prop :=
  ∃ a' c' ks', e = .returned (.tuple #[askV R.1 a' R.1.2.2.2.length c', .bool R.2.1, .int .i64 R.2.2]) ∧ ks'.map KV.flat = R.1.2.2.2 ∧ KAt w' w.heap.size a' ks' ∧ Below w.heap.size w w'

set_option maxRecDepth 100000 in
set_option maxHeartbeats 2000000 in
theorem take_any (id next acked r : Int) (a : Option Addr) (n c lo : Nat) (ks : List KV) (w : World) (hl : ks.length = n) (h : KAt w lo a ks) (hnn : n * 32 ≤ SMALL) (hin : -9223372036854775808 ≤ next ∧ next ≤ 9223372036854775807) :
    Calls Try.prog 13 #[.agg #[.int .i64 id, .int .i64 next, .int .i64 acked, .slice a n c], .int .i64 r] w (TakePost (takeP (id, next, acked, ks.map KV.flat) r) w) := by
  unfold SMALL at hnn
  obtain ⟨W1, hW1⟩ : ∃ W1, W1 = w.alloc (.cells #[.int .i64 id, .int .i64 next, .int .i64 acked, .slice a n c] 41) := ⟨_, rfl⟩
  obtain ⟨W2, hW2⟩ : ∃ W2, W2 = W1.alloc (.cells #[.int .i64 r] 3) := ⟨_, rfl⟩
  obtain ⟨W3, hW3⟩ : ∃ W3, W3 = W2.alloc (.cells #[.int .i64 0, .int .i64 0, .int .i64 0, .slice none 0 0] 41) := ⟨_, rfl⟩
  have s1 : W1.heap.size = w.heap.size + 1 := by rw [hW1]; simp
  have s2 : W2.heap.size = w.heap.size + 2 := by rw [hW2]; simp [s1]
  have s3 : W3.heap.size = w.heap.size + 3 := by rw [hW3]; simp [s2]
  have b1 : Below w.heap.size w W1 := by rw [hW1]; exact below_lit w _
  have b2 : Below W1.heap.size W1 W2 := by rw [hW2]; exact below_lit W1 _
  have b3 : Below W2.heap.size W2 W3 := by rw [hW3]; exact below_lit W2 _
  have p1 : ABlk W1 w.heap.size (.int .i64 id) (.int .i64 next) (.int .i64 acked) (.slice a n c) := by rw [hW1]; exact ABlk.new w _ _ _ _
  have t2 : W2.cell? ⟨w.heap.size + 1, 0, none⟩ = some (.int .i64 r) := by
    rw [hW2, ← s1]
    unfold World.cell?
    have : (W1.alloc (.cells #[.int .i64 r] 3)).heap[W1.heap.size]? = some (.cells #[.int .i64 r] 3 (0, 0)) := heap_alloc_new W1 _
    simp only [this]
    rfl
  have p3 : ABlk W3 (w.heap.size + 2) (.int .i64 0) (.int .i64 0) (.int .i64 0) (.slice none 0 0) := by rw [hW3, ← s2]; exact ABlk.new W2 _ _ _ _
  have q1 := p1.below (bnext b2 b3)
  have t3 : W3.cell? ⟨w.heap.size + 1, 0, none⟩ = some (.int .i64 r) := by rw [b3.cell (p := ⟨w.heap.size + 1, 0, none⟩) (World.block_lt_of_cell? _ _ t2)]; exact t2
  have B3 := bnext b1 (bnext b2 b3)
  have hK3 := h.below B3
  have hraC := righta_any id next acked a n c lo ks W3 hl hK3 (by omega) hin
  rw [hW3, hW2, hW1] at hraC
  replace hraC := hid hraC
  replace hl := hid hl
  replace s1 := hid s1
  replace s2 := hid s2
  replace p1 := hid p1
  replace t2 := hid t2
  cases hra : rightA (id, next, acked, ks.map KV.flat) with
  | false =>
    have e : takeP (id, next, acked, ks.map KV.flat) r = ((0, 0, 0, []), false, 2) := by unfold takeP; rw [hra]; rfl
    rw [e]
    replace e := hid e
    replace hra := hid hra
    go_enter Try.func13, Try.ntmps13
    go_wp2_with fail
    refine hraC.out.mono ?_
    rintro e w2 ⟨rfl, hb2⟩
    rw [hra.out]
    rw [← hW1, ← hW2, ← hW3] at hb2
    have B2 := bnext B3 hb2
    have q2 := p3.below hb2
    have d0 := q2.cell0
    have d1 := q2.cell1
    have d2 := q2.cell2
    have d3 := q2.cell3
    have f0 := q2.free 0
    have f1 := q2.free 1
    have f2 := q2.free 2
    have f3 := q2.free 3
    have r2 := hid (q2.set (.int .i64 0) (.int .i64 0) (.int .i64 0) (.slice none 0 0))
    have hBf := hid (below_set4 B2 (w.heap.size + 2) (by omega) (.int .i64 0) (.int .i64 0) (.int .i64 0) (.slice none 0 0))
    replace q1 := hid q1
    replace q2 := hid q2
    replace hK3 := hid hK3
    replace p3 := hid p3
    replace hW1 := hid hW1
    replace hW2 := hid hW2
    replace hW3 := hid hW3
    go_wp2
    (try simp only [Exit.inBlock, Exit.then])
    refine bodyPost_ret (results_a3 rfl _ _ (w.heap.size + 2) _ _ _ _ rfl r2.out) rfl ?_
    exact ⟨none, 0, [], rfl, rfl, KAt.nil _ _, hBf.out⟩
  | true =>
    have hn8 : n ≤ 8 := by have := waits_len hra; rw [List.length_map] at this; rw [← hl.out]; exact this
    obtain ⟨_, hne1, hrise, hea, h8⟩ := righta_inv hra
    rw [amap] at hrise
    have e : takeP (id, next, acked, ks.map KV.flat) r = ((id, next, ackP next (((ks.filter fun k => !(k.num == r)).map KV.flat).map (·.1)), (ks.filter fun k => !(k.num == r)).map KV.flat), decide (((ks.filter fun k => !(k.num == r)).map KV.flat).length < (ks.map KV.flat).length), 0) := by
      unfold takeP
      rw [hra, if_neg (by simp)]
      have hf : (ks.map KV.flat).filter (fun k => !(k.1 == r)) = (ks.filter fun k => !(k.num == r)).map KV.flat := by
        rw [List.filter_map]; rfl
      show ((id, next, ackP next (((ks.map KV.flat).filter fun k => !(k.1 == r)).map (·.1)), (ks.map KV.flat).filter fun k => !(k.1 == r)), decide (((ks.map KV.flat).filter fun k => !(k.1 == r)).length < (ks.map KV.flat).length), 0) = _
      rw [hf]
    rw [e, amap]
    obtain ⟨F, hF⟩ : ∃ F, F = (ks.filter fun k => !(k.num == r)) := ⟨_, rfl⟩
    rw [← hF]
    replace e := hid e
    replace hra := hid hra
    replace hea := hid hea
    replace h8 := hid h8
    go_enter Try.func13, Try.ntmps13
    go_wp2_with fail
    refine hraC.out.mono ?_
    rintro e w2 ⟨rfl, hb2⟩
    rw [hra.out]
    rw [← hW1, ← hW2, ← hW3] at hb2
    have B2 := bnext B3 hb2
    have k1 := q1.below hb2
    have k3 := p3.below hb2
    have c0 := k1.cell0
    have c1 := k1.cell1
    have c2 := k1.cell2
    have c3 := k1.cell3
    have tq : w2.cell? ⟨w.heap.size + 1, 0, none⟩ = some (.int .i64 r) := by rw [hb2.cell (p := ⟨w.heap.size + 1, 0, none⟩) (World.block_lt_of_cell? _ _ t3)]; exact t3
    have hK2 := hK3.below hb2
    have hsz2 : w.heap.size + 3 ≤ w2.heap.size := by have := hb2.size; omega
    replace q1 := hid q1
    replace p3 := hid p3
    replace t3 := hid t3
    replace hK3 := hid hK3
    replace k3 := hid k3
    replace hW1 := hid hW1
    replace hW2 := hid hW2
    replace hW3 := hid hW3
    replace s3 := hid s3
    go_wp2_with fail
    refine (copied_w a n c lo ks _ hl.out hK2 (by unfold SMALL; omega)).mono ?_
    rintro e w4 ⟨v4, Q, rfl, hQ, hO4, hb4⟩
    have hQl : Q.length = n := by have := congrArg List.length hQ; simp at this; rw [this]; exact hl.out
    obtain ⟨a4, c4, rfl, hc4⟩ := owns_form hO4.row
    rw [hQl] at hO4 hc4 ⊢
    have tq4 : w4.cell? ⟨w.heap.size + 1, 0, none⟩ = some (.int .i64 r) := by rw [hb4.cell (p := ⟨w.heap.size + 1, 0, none⟩) (World.block_lt_of_cell? _ _ tq)]; exact tq
    have hdel := del_w a4 n c4 (w.heap.size + 1) w2.heap.size r Q w4 hQl (by omega) hO4 (fun e => by have := (World.ownsRow.lt hO4.row _ e).1; omega) tq4
    replace hQl := hid hQl
    replace hQ := hid hQ
    replace hK2 := hid hK2
    go_wp2_with fail
    refine hdel.mono ?_
    clear hdel
    rintro e w5 ⟨v5, rfl, hO5, hk5, hv5⟩
    obtain ⟨a5, c5, rfl, hc5⟩ := owns_form hO5.row
    have hfl : (Q.filter fun k => !(k.num == r)).map KV.flat = F.map KV.flat := by
      have h1 : (Q.map KV.flat).filter (fun k => !(k.1 == r)) = (Q.filter fun k => !(k.num == r)).map KV.flat := by rw [List.filter_map]; rfl
      have h2 : (ks.map KV.flat).filter (fun k => !(k.1 == r)) = F.map KV.flat := by rw [hF, List.filter_map]; rfl
      rw [← h1, ← h2, hQ.out]
    obtain ⟨G, hG⟩ : ∃ G, G = (Q.filter fun k => !(k.num == r)) := ⟨_, rfl⟩
    rw [← hG] at hO5 hfl hc5 ⊢
    have hGF : G.map KV.num = F.map KV.num := by rw [← amap, ← amap, hfl]
    have hGl : G.length = F.length := by have := congrArg List.length hfl; simpa using this
    obtain ⟨m, hm⟩ : ∃ m, F.length = m := ⟨_, rfl⟩
    rw [hGl, hm] at hO5 hc5 ⊢
    have hmn : m ≤ n := by
      rw [← hm, hF, ← hl.out]; exact List.length_filter_le _ _
    have own4 : ∀ k, (Value.slice a4 n c4).ownBlock = some k → w2.heap.size ≤ k := fun k hk => (World.ownsRow.lt hO4.row k hk).1
    have k15 := (k1.below hb4).kp hk5 (fun e => by have := own4 _ e; omega)
    have k35 := (k3.out.below hb4).kp hk5 (fun e => by have := own4 _ e; omega)
    have hB5 : Below w2.heap.size w2 w5 := hb4.trans (hk5.below own4 hb4.size)
    have c0 := k15.cell0
    have c1 := k15.cell1
    have c2 := k15.cell2
    have c3 := k15.cell3
    have f3 := k15.free 3
    have r15 := hid (k15.set3 (.slice a5 m c5))
    have hk6 : Kp (fun k => k = w.heap.size) w5 (w5.setCell ⟨w.heap.size, 3, none⟩ (.slice a5 m c5)) := (Kp.refl (fun k => k = w.heap.size) w5).setCell (p := ⟨w.heap.size, 3, none⟩) rfl _
    have hKA5 := hO5.kat.kp hk6 (fun k hk => by omega)
    have hGk : ∀ k ∈ G, 0 < k.num ∧ k.num ≤ MM := fun k hk => by
      have hk' : k.num ∈ ks.map KV.num := by
        have h1 : k.num ∈ F.map KV.num := by rw [← hGF]; exact List.mem_map.2 ⟨k, hk, rfl⟩
        obtain ⟨x, hx, hxe⟩ := List.mem_map.1 h1
        rw [hF] at hx
        exact List.mem_map.2 ⟨x, (List.mem_filter.1 hx).1, hxe⟩
      have key : ∀ (lo hi : Int) (l : List Int), riseB lo hi l = true → ∀ x ∈ l, lo < x ∧ x ≤ hi := by
        intro lo hi l
        induction l generalizing lo with
        | nil => intro _ x hx; simp at hx
        | cons y r ih =>
          intro hr x hx
          simp only [riseB, Bool.and_eq_true, decide_eq_true_eq] at hr
          rcases List.mem_cons.1 hx with rfl | hx
          · exact hr.1
          · have := ih y hr.2 x hx
            omega
      have := key _ _ _ hrise _ hk'
      omega
    have hans := ansup_any 52 rfl id next acked a5 m c5 w2.heap.size G (w5.setCell ⟨w.heap.size, 3, none⟩ (.slice a5 m c5)) (hGl.trans hm) hKA5 hne1 hGk (by omega)
    rw [hGF] at hans
    replace hans := hid hans
    replace hfl := hid hfl
    replace hGF := hid hGF
    replace hGl := hid hGl
    replace hF := hid hF
    replace hG := hid hG
    replace hm := hid hm
    replace hO4 := hid hO4
    replace hO5 := hid hO5
    replace hKA5 := hid hKA5
    replace hGk := hid hGk
    replace k15 := hid k15
    replace k1 := hid k1
    replace hk5 := hid hk5
    replace hrise := hid hrise
    replace hk6 := hid hk6
    replace tq := hid tq
    replace tq4 := hid tq4
    go_wp2_with fail
    refine hans.out.mono ?_
    rintro e w7 ⟨rfl, hb7⟩
    obtain ⟨A, hA⟩ : ∃ A, A = ackP next (F.map KV.num) := ⟨_, rfl⟩
    rw [← hA]
    have r17 := r15.out.below hb7
    have k37 := (k35.kp hk6.out (fun e => by omega)).below hb7
    have hKA7 := hKA5.out.below hb7
    have c0 := r17.cell0
    have c1 := r17.cell1
    have c2 := r17.cell2
    have c3 := r17.cell3
    have f2 := r17.free 2
    have r18 := r17.set2 (.int .i64 A)
    have k38 : ABlk _ (w.heap.size + 1 + 1) _ _ _ _ := k37.other w.heap.size 2 (.int .i64 A) (by omega)
    have bd := drew_below (w7.setCell ⟨w.heap.size, 2, none⟩ (.int .i64 A))
    have r19 := r18.below bd
    have k39 := k38.below bd
    have x0 := r19.cell0
    have x1 := r19.cell1
    have x2 := r19.cell2
    have x3 := r19.cell3
    have y0 := k39.cell0
    have y1 := k39.cell1
    have y2 := k39.cell2
    have y3 := k39.cell3
    have z0 := k39.free 0
    have z1 := k39.free 1
    have z2 := k39.free 2
    have z3 := k39.free 3
    have k37' : ABlk w7 (w.heap.size + 1 + 1) _ _ _ _ := k37
    have u0 := k37'.cell0
    have u1 := k37'.cell1
    have u2 := k37'.cell2
    have u3 := k37'.cell3
    have v0 := k37'.free 0
    have v1 := k37'.free 1
    have v2 := k37'.free 2
    have v3 := k37'.free 3
    replace k37' := hid k37'
    have hne : w.heap.size ≠ w.heap.size + 1 + 1 := by omega
    have hne2 : w.heap.size + 1 + 1 ≠ w.heap.size := by omega
    have r2 := hid (k39.set (.int .i64 id) (.int .i64 next) (.int .i64 A) (.slice a5 m c5))
    have hk7 : Kp (fun k => k = w.heap.size ∨ k = w.heap.size + 1 + 1) w7 _ := ((((((Kp.refl (fun k => k = w.heap.size ∨ k = w.heap.size + 1 + 1) w7).setCell (p := ⟨w.heap.size, 2, none⟩) (.inl rfl) (.int .i64 A)).then bd).setCell (p := ⟨w.heap.size + 1 + 1, 0, none⟩) (.inr rfl) (.int .i64 id)).setCell (p := ⟨w.heap.size + 1 + 1, 1, none⟩) (.inr rfl) (.int .i64 next)).setCell (p := ⟨w.heap.size + 1 + 1, 2, none⟩) (.inr rfl) (.int .i64 A)).setCell (p := ⟨w.heap.size + 1 + 1, 3, none⟩) (.inr rfl) (.slice a5 m c5)
    have hKf := hid ((hKA7.kp hk7 (fun k hk => by omega)).le B2.size)
    have hB6 : Below w.heap.size w (w5.setCell ⟨w.heap.size, 3, none⟩ (.slice a5 m c5)) := (bnext B2 hB5).setCell (p := ⟨w.heap.size, 3, none⟩) (Nat.le_refl _) _
    have hB7 := bnext hB6 hb7
    have hBf := hid (hB7.trans (hk7.below (base := w.heap.size) (fun k hk => by omega) hB7.size))
    replace hk7 := hid hk7
    replace r17 := hid r17
    replace r18 := hid r18
    replace r19 := hid r19
    replace k37 := hid k37
    replace k38 := hid k38
    replace k39 := hid k39
    replace k35 := hid k35
    replace hKA7 := hid hKA7
    replace hA := hid hA
    go_wp2_with fail
    go_region
    all_goals
      go_wp2
      (try simp only [Exit.inBlock, Exit.then])
      refine bodyPost_ret (results_a3 rfl _ _ (w.heap.size + 1 + 1) _ _ _ _ rfl r2.out) rfl ?_
      refine ⟨a5, c5, G, ?_, ?_, hKf.out, hBf.out⟩
      · unfold askV
        simp only [List.length_map, hm.out, hl.out]
        simp
        exact hA.out
      · exact hfl.out

end Go.Proofs.Ythjggjjocfbjcaa
