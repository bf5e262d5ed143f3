/- CopyAsker. -/
import Derived.Test.YthjggjjocfbjcaaRefTake
namespace Go.Proofs.Ythjggjjocfbjcaa
open Go.RowKit

set_option maxRecDepth 100000 in
set_option maxHeartbeats 8000000 in
theorem copya_any (id next acked : Int) (a : Option Addr) (n c lo : Nat) (ks : List KV) (w : World) (hl : ks.length = n) (h : KAt w lo a ks) (hnn : n * 32 ≤ SMALL) :
    Calls Try.prog 24 #[.agg #[.int .i64 id, .int .i64 next, .int .i64 acked, .slice a n c]] w fun e w' => ∃ a' c' Q, e = .returned (.agg #[.int .i64 id, .int .i64 next, .int .i64 acked, .slice a' n c']) ∧ Q.map KV.flat = ks.map KV.flat ∧ KAt w' w.heap.size a' Q ∧ Below w.heap.size w w' := by
  unfold SMALL at hnn
  have b1 := below_lit w (.cells #[.int .i64 id, .int .i64 next, .int .i64 acked, .slice a n c] 41)
  have p1 := ABlk.new w (.int .i64 id) (.int .i64 next) (.int .i64 acked) (.slice a n c)
  have b2 := below_lit (w.alloc (.cells #[.int .i64 id, .int .i64 next, .int .i64 acked, .slice a n c] 41)) (.cells #[.int .i64 0, .int .i64 0, .int .i64 0, .slice none 0 0] 41)
  have p2 := ABlk.new (w.alloc (.cells #[.int .i64 id, .int .i64 next, .int .i64 acked, .slice a n c] 41)) (.int .i64 0) (.int .i64 0) (.int .i64 0) (.slice none 0 0)
  have es : (w.alloc (.cells #[.int .i64 id, .int .i64 next, .int .i64 acked, .slice a n c] 41)).heap.size = w.heap.size + 1 := by simp
  rw [es] at p2
  replace hl := hid hl
  replace p1 := p1.below b2
  replace b1 := bnext b1 b2
  clear b2
  have hK1 := h.below b1
  obtain ⟨i0, hi0, hz0, hz1, hz2⟩ := info_parts info69z
  have hsz1 : ((w.alloc (.cells #[.int .i64 id, .int .i64 next, .int .i64 acked, .slice a n c] 41)).alloc (.cells #[.int .i64 0, .int .i64 0, .int .i64 0, .slice none 0 0] 41)).heap.size = w.heap.size + 2 := by simp
  go_enter Try.func24, Try.ntmps24
  go_wp2_with fail
  obtain ⟨w1, hw1⟩ : ∃ w1, w1 = (w.alloc (.cells #[.int .i64 id, .int .i64 next, .int .i64 acked, .slice a n c] 41)).alloc (.cells #[.int .i64 0, .int .i64 0, .int .i64 0, .slice none 0 0] 41) := ⟨_, rfl⟩
  rw [← hw1] at p1 p2 b1 hK1 hsz1 ⊢
  clear hw1 es
  replace p1 := hid p1
  replace p2 := hid p2
  replace hsz1 := hid hsz1
  go_loopw [3, 4] (fun v i wr => ∃ j : Nat, j ≤ n ∧ i = .int .i64 (j : Int) ∧ CkIw w1 wr ks j v) (fun _ i _ => n - (intOf i).toNat)
  case atStart => exact ⟨0, Nat.zero_le _, rfl, [], rfl, KOwn.nil _ _ _, Below.refl _ _⟩
  case round =>
    obtain ⟨j, hj, rfl, Q, hQ, hP, hB⟩ := hrel
    have q1 := p1.out.below hB
    have c3 := q1.cell3
    by_cases hlt : j < n
    · have hjL : j < ks.length := by rw [hl.out]; exact hlt
      obtain ⟨b, o, e⟩ := h.place (by intro e; rw [e] at hjL; simp at hjL)
      subst e
      have bd := drew_below wr
      have hr := (hK1.below hB).below bd
      obtain ⟨x0, x1⟩ := hr.one j hjL
      have hat := hr.body _ (List.getElem_mem hjL)
      have hsh := hr.short _ (List.getElem_mem hjL)
      unfold SMALL at hsh
      have hQl : Q.length = j := by have := congrArg List.length hQ; simpa [Nat.min_eq_left (Nat.le_of_lt hjL)] using this
      obtain ⟨q, hq⟩ : ∃ q, q = ks[j] := ⟨_, rfl⟩
      rw [← hq] at x0 x1 hat hsh
      replace hq := hid hq
      obtain ⟨num, a1, c1, body⟩ := q
      simp only at x0 x1 hat hsh
      obtain ⟨len, hlen⟩ : ∃ x, body.length = x := ⟨_, rfl⟩
      rw [hlen] at x1 hsh
      replace hlen := hid hlen
      have hrow := hP.row
      rw [hQl] at hrow
      have c3d : wr.drew.cell? ⟨w.heap.size, 3, none⟩ = some (.slice (some ⟨b, o, none⟩) n c) := c3
      have hcp := copyb_any a1 c1 len body wr.drew hlen.out hsh hat
      replace hQl := hid hQl
      replace hQ := hid hQ
      replace hP := hid hP
      replace hr := hid hr
      replace hrow := hid hrow
      replace q1 := hid q1
      have hbx := World.block_lt_of_cell? _ _ x0
      have hgx := World.block_lt_of_cell? _ _ c3d
      go_wp2_with fail
      go_region_law (first
        | (refine step_call rfl 55 _ _ rfl Try.f55 Try.func55 (by kernel_rfl) (by kernel_rfl) #[.slice a1 len c1] (by simp [Act.eval, Act.put]) hcp ?_; rintro e w5 ⟨a5, c5, rfl, ho5, hb5⟩; refine ⟨_, rfl, ?_⟩; have y0 : w5.cell? ⟨b, o + j * 2, none⟩ = some (.int .i64 num) := (hb5.cell (p := ⟨b, o + j * 2, none⟩) hbx).trans x0; have y3 : w5.cell? ⟨w.heap.size, 3, none⟩ = some (.slice (some ⟨b, o, none⟩) n c) := (hb5.cell (p := ⟨w.heap.size, 3, none⟩) hgx).trans c3d; have B5 := bnext bd hb5; have bl6 := below_lit w5 (.cells #[.int .i64 num, .slice a5 len c5] 69); have hr6 := owns_below (owns_below hrow.out B5) bl6; have hcl := cat_lit w5 69 [.int .i64 num, .slice a5 len c5] _ rfl; have hbase : w1.heap.size ≤ (w5.alloc (.cells #[.int .i64 num, .slice a5 len c5] 69)).heap.size := Nat.le_trans hB.size (bnext B5 bl6).size)
        | (refine step_cat rfl (.tmp 12) (.tmp 27) 39 rfl w1.heap.size 69 i0 _ 2 32 Try.underlying39 hi0 hz0 hz1 hz2 rfl (by omega) u3 j (Q.flatMap KV.cells) rfl hr6 (some ⟨w5.heap.size, 0, none⟩) 1 1 [.int .i64 num, .slice a5 len c5] rfl rfl hcl (by simp [Value.oneCell']) (by unfold maxLen; omega) (by omega) hbase ?_; intro v7 w7 hr7 hg7 hv7))
      all_goals
        have hnext : CkIw w1 w7 ks (j + 1) v7 := by
          refine ⟨Q ++ [⟨num, a5, c5, body⟩], kflat_snoc hjL _ hQ.out (by rw [← hq.out]; rfl), ?_, ?_⟩
          · have hl2 := hlen.out
            have hq2 := hQl.out
            subst hl2
            rw [← hq2] at hr7
            exact hP.out.more (q := ⟨num, a5, c5, body⟩) (by decide) (bnext B5 bl6) ((ho5.below bl6).le bd.size) (by unfold SMALL; exact hsh) hB.size hr7 hg7
          · refine (hB.trans ((bnext B5 bl6).mono hB.size)).trans ?_
            refine (Kp.grown hg7).below (fun k hk => ?_) hbase
            exact (World.ownsRow.lt hP.out.row k hk).1
        replace hnext := hid hnext
        go_wp2_with fail
        go_roundw
        case rel => exact ⟨j + 1, by omega, by go_num, hnext.out⟩
        case measure => simp [intOf]; omega
    · obtain rfl : j = n := by omega
      have hQ' : Q.map KV.flat = ks.map KV.flat := by rw [hQ, ← hl.out, List.take_length]
      have hQl : Q.length = j := by have := congrArg List.length hQ'; simp at this; rw [this]; exact hl.out
      obtain ⟨a5, c5, rfl, hc5⟩ := owns_form hP.row
      rw [hQl] at hP ⊢
      have q2 := p2.out.below hB
      have c0 := q1.cell0
      have c1 := q1.cell1
      have c2 := q1.cell2
      have f3 := q1.free 3
      have d0 := q2.cell0
      have d1 := q2.cell1
      have d2 := q2.cell2
      have d3 := q2.cell3
      have g0 := q2.free 0
      have g1 := q2.free 1
      have g2 := q2.free 2
      have g3 := q2.free 3
      have hs1 := hsz1.out
      have rf := hid ((q2.other w.heap.size 3 (.slice a5 j c5) (by omega)).set (.int .i64 id) (.int .i64 next) (.int .i64 acked) (.slice a5 j c5))
      have hkf : Kp (fun k => k = w.heap.size ∨ k = w.heap.size + 1) wr _ := (((((Kp.refl (fun k => k = w.heap.size ∨ k = w.heap.size + 1) wr).setCell (p := ⟨w.heap.size, 3, none⟩) (.inl rfl) (.slice a5 j c5)).setCell (p := ⟨w.heap.size + 1, 0, none⟩) (.inr rfl) (.int .i64 id)).setCell (p := ⟨w.heap.size + 1, 1, none⟩) (.inr rfl) (.int .i64 next)).setCell (p := ⟨w.heap.size + 1, 2, none⟩) (.inr rfl) (.int .i64 acked)).setCell (p := ⟨w.heap.size + 1, 3, none⟩) (.inr rfl) (.slice a5 j c5)
      have hKf := hid ((hP.kat.kp hkf (fun k hk => by omega)).le (show w.heap.size ≤ w1.heap.size by omega))
      have hBf := hid ((bnext b1 hB).trans (hkf.below (base := w.heap.size) (fun k hk => by omega) (bnext b1 hB).size))
      replace hkf := hid hkf
      replace q1 := hid q1
      replace q2 := hid q2
      replace hP := hid hP
      replace hQ := hid hQ
      replace hQ' := hid hQ'
      replace hQl := hid hQl
      go_wp2
      (try simp only [Exit.inBlock, Exit.then])
      refine bodyPost_ret (results_a1 rfl _ _ (w.heap.size + 1) _ _ _ _ rfl rf.out) rfl ?_
      exact ⟨a5, c5, Q, rfl, hQ'.out, hKf.out, hBf.out⟩

end Go.Proofs.Ythjggjjocfbjcaa
