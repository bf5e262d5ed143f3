/- Copies of clients: clientApart, copied. -/
import Derived.Test.YthjggjjocfbjcaaCopy
namespace Go.Proofs.Ythjggjjocfbjcaa
open Go.RowKit

set_option maxRecDepth 100000 in
set_option maxHeartbeats 2000000 in
theorem capart_any (x y : Int) (a : Option Addr) (n c lo : Nat) (ks : List KV) (w : World) (hl : ks.length = n) (hn : n ≤ 8) (hat : KAt w lo a ks) :
    Calls Try.prog 38 #[.agg #[.int .i64 x, .int .i64 y, .slice a n c]] w fun e w' => ∃ a' c' Q, e = .returned (.agg #[.int .i64 x, .int .i64 y, .slice a' n c']) ∧ Q.map KV.flat = ks.map KV.flat ∧ KOwn 36 w' w.heap.size (.slice a' n c') Q ∧ Below w.heap.size w w' := by
  have b1 := below_lit w (.cells #[.int .i64 x, .int .i64 y, .slice a n c] 34)
  have p1 := CBlk.new w (.int .i64 x) (.int .i64 y) (.slice a n c)
  have b2 := below_lit (w.alloc (.cells #[.int .i64 x, .int .i64 y, .slice a n c] 34)) (.cells #[.int .i64 0, .int .i64 0, .slice none 0 0] 34)
  have p2 := CBlk.new (w.alloc (.cells #[.int .i64 x, .int .i64 y, .slice a n c] 34)) (.int .i64 0) (.int .i64 0) (.slice none 0 0)
  have es : (w.alloc (.cells #[.int .i64 x, .int .i64 y, .slice a n c] 34)).heap.size = w.heap.size + 1 := by simp
  rw [es] at p2
  replace hl := hid hl
  replace p1 := hid (p1.below b2)
  replace p2 := hid p2
  replace b1 := hid (bnext b1 b2)
  clear b2
  go_enter Try.func38, Try.ntmps38
  go_wp2_with fail
  refine (copied_k a n c lo ks _ hl.out (hat.below b1.out) (by unfold SMALL; omega)).mono ?_
  rintro e w1 ⟨v, Q, rfl, hQ, ho, hb⟩
  have hQl : Q.length = n := by have := congrArg List.length hQ; simp at this; rw [this]; exact hl.out
  obtain ⟨a', c', rfl, hc'⟩ := owns_form ho.row
  rw [hQl] at ho ⊢
  have q1 := p1.out.below hb
  have q2 := p2.out.below hb
  have hB := bnext b1.out hb
  have hz : w.heap.size + 2 ≤ _ := Nat.le_of_eq (show w.heap.size + 2 = ((w.alloc (.cells #[.int .i64 x, .int .i64 y, .slice a n c] 34)).alloc (.cells #[.int .i64 0, .int .i64 0, .slice none 0 0] 34)).heap.size by simp)
  have c0 := q1.cell0
  have c1 := q1.cell1
  have c2 := q1.cell2
  have f2 := q1.free 2
  have d0 := q2.cell0
  have d1 := q2.cell1
  have d2 := q2.cell2
  have e0 := q2.free 0
  have e1 := q2.free 1
  have e2 := q2.free 2
  have r2 := hid ((((q2.other w.heap.size 2 (.slice a' n c') (by omega)).set0 (.int .i64 x)).set1 (.int .i64 y)).set2 (.slice a' n c'))
  have hB2 := hid ((((hB.setCell (p := ⟨w.heap.size, 2, none⟩) (Nat.le_refl _) (.slice a' n c')).setCell (p := ⟨w.heap.size + 1, 0, none⟩) (Nat.le_succ _) (.int .i64 x)).setCell (p := ⟨w.heap.size + 1, 1, none⟩) (Nat.le_succ _) (.int .i64 y)).setCell (p := ⟨w.heap.size + 1, 2, none⟩) (Nat.le_succ _) (.slice a' n c'))
  have ho2 := hid ho
  replace q1 := hid q1
  replace q2 := hid q2
  replace hQ := hid hQ
  replace hQl := hid hQl
  clear ho
  go_wp2
  (try simp only [Exit.inBlock, Exit.then])
  refine bodyPost_ret (results_c rfl _ _ (w.heap.size + 1) _ _ _ rfl r2.out) rfl ?_
  refine ⟨a', c', Q, rfl, hQ.out, ?_, hB2.out⟩
  have hk : Kp (fun k => k = w.heap.size ∨ k = w.heap.size + 1) w1 _ := ((((Kp.refl _ w1).setCell (p := ⟨w.heap.size, 2, none⟩) (.inl rfl) (.slice a' n c')).setCell (p := ⟨w.heap.size + 1, 0, none⟩) (.inr rfl) (.int .i64 x)).setCell (p := ⟨w.heap.size + 1, 1, none⟩) (.inr rfl) (.int .i64 y)).setCell (p := ⟨w.heap.size + 1, 2, none⟩) (.inr rfl) (.slice a' n c')
  refine (ho2.out.kp hk (fun k hk e => ?_) (fun q hq k hk e => ?_)).low (by omega)
  · have := (World.ownsRow.lt ho2.out.row k hk).1; omega
  · have := ((ho2.out.own q hq).lt k hk).1; omega

theorem COwn.more {w w2 w3 : World} {base : Nat} {v v' : Value} {Q : List CV} {q : CV} (h : COwn w base v Q) (hb2 : Below w.heap.size w w2) (hq : KOwn 36 w2 w.heap.size (.slice q.a q.ks.length q.c) q.ks) (hbase : base ≤ w.heap.size)
    (hr : w3.ownsRow base 34 3 v' (Q.length + 1) (Q.flatMap CV.cells ++ q.cells)) (hg : w2.grownBy w3 v.ownBlock) : COwn w3 base v' (Q ++ [q]) := by
  have kg := Kp.grown hg
  have hvl : ∀ k, v.ownBlock = some k → k < w.heap.size := fun k hk => (World.ownsRow.lt h.row k hk).2
  refine ⟨by simpa using hr, ?_, ?_⟩
  · intro p hp
    rcases List.mem_append.1 hp with hp | hp
    · exact ((h.own p hp).below hb2).kp kg (rows_off (h.own p hp).row h.row (by decide)) (fun q hq => own_off ((h.own p hp).own q hq) h.row (by decide))
    · simp at hp; subst hp
      refine (hq.low hbase).kp kg (fun k hk e => ?_) (fun q hq' k hk e => ?_)
      · have h1 := (World.ownsRow.lt hq.row k hk).1
        have h2 := hvl k e
        omega
      · have h1 := ((hq.own q hq').lt k hk).1
        have h2 := hvl k e
        omega
  · rw [List.pairwise_append]
    refine ⟨h.apart, by simp, fun p hp p' hp' x y hx hy => ?_⟩
    simp at hp'; subst hp'
    have h1 := (World.ownsRow.lt (h.own p hp).row x.block (by rw [hx]; rfl)).2
    have h2 := (World.ownsRow.lt hq.row y.block (by rw [hy]; rfl)).1
    omega

def CcI (w wr : World) (L : List CV) (j : Nat) (v : Value) : Prop := ∃ Q, Q.map CV.flat = (L.take j).map CV.flat ∧ COwn wr w.heap.size v Q ∧ Below w.heap.size w wr

set_option maxRecDepth 100000 in
set_option maxHeartbeats 2000000 in
theorem copied_c (a : Option Addr) (n c lo : Nat) (L : List CV) (w : World) (hL : L.length = n) (h : LAt w lo a L) (hn : n ≤ 1000000) (h8 : ∀ x ∈ L, x.ks.length ≤ 8) :
    Calls Try.prog 37 #[.slice a n c, .func (.func 38) #[] #[]] w fun e w' => ∃ v Q, e = .returned v ∧ Q.map CV.flat = L.map CV.flat ∧ COwn w' w.heap.size v Q ∧ Below w.heap.size w w' := by
  replace hL := hid hL
  replace h8 := hid h8
  obtain ⟨i0, hi0, hz0, hz1, hz2⟩ := info_parts info34z
  go_enter Try.func37, Try.ntmps37
  go_wp2_with fail
  go_loopw [5, 10] (fun v i wr => ∃ j : Nat, j ≤ n ∧ i = .int .i64 (j : Int) ∧ CcI w wr L j v) (fun _ i _ => n - (intOf i).toNat)
  case atStart => exact ⟨0, Nat.zero_le _, rfl, [], rfl, COwn.nil _ _, Below.refl _ _⟩
  case round =>
    obtain ⟨j, hj, rfl, Q, hQ, hP, hB⟩ := hrel
    by_cases hlt : j < n
    · have hjL : j < L.length := by rw [hL.out]; exact hlt
      obtain ⟨b, o, e⟩ := h.place (by intro e; rw [e] at hjL; simp at hjL)
      subst e
      have hr := h.below hB
      obtain ⟨x0, x1, x2⟩ := hr.one j hjL
      have hat := hr.kept _ (List.getElem_mem hjL)
      have hsh := h8.out _ (List.getElem_mem hjL)
      have hQl : Q.length = j := by have := congrArg List.length hQ; simpa [Nat.min_eq_left (Nat.le_of_lt hjL)] using this
      obtain ⟨q, hq⟩ : ∃ q, q = L[j] := ⟨_, rfl⟩
      rw [← hq] at x0 x1 x2 hat hsh
      replace hq := hid hq
      obtain ⟨id, fl, a1, c1, ks⟩ := q
      simp only at x0 x1 x2 hat hsh
      obtain ⟨len, hl⟩ : ∃ x, ks.length = x := ⟨_, rfl⟩
      rw [hl] at x2 hsh
      replace hl := hid hl
      replace hQl := hid hQl
      replace hQ := hid hQ
      replace hP := hid hP
      replace hr := hid hr
      have b4 := below_lit wr (.cells #[.int .i64 id, .int .i64 fl, .slice a1 len c1] 34)
      have hat4 := hat.below b4
      replace hat4 := hid hat4
      replace hat := hid hat
      go_wp2_with fail
      refine (capart_any id fl a1 len c1 lo ks _ hl.out hsh hat4.out).mono ?_
      rintro e w5 ⟨a', c', K, rfl, hK, ho5, hb5⟩
      have bl6 := below_lit w5 (.cells #[.int .i64 id, .int .i64 fl, .slice a' len c'] 34)
      have B6 := bnext b4 (bnext hb5 bl6)
      have hP6 := owns_below hP.out.row B6
      rw [hQl.out] at hP6
      have hbase : w.heap.size ≤ (w5.alloc (.cells #[.int .i64 id, .int .i64 fl, .slice a' len c'] 34)).heap.size := Nat.le_trans hB.size B6.size
      have hcl := cat_lit w5 34 [.int .i64 id, .int .i64 fl, .slice a' len c'] _ rfl
      have ho6 : KOwn 36 _ wr.heap.size _ _ := (ho5.below bl6).low b4.size
      replace ho6 := hid ho6
      replace ho5 := hid ho5
      replace hP6 := hid hP6
      replace hbase := hid hbase
      replace hcl := hid hcl
      replace hK := hid hK
      go_wp2_with (at_builtin; refine wpList_cat _ rfl (.tmp 14) (.tmp 18) 22 rfl w.heap.size 34 i0 _ 3 40 Try.underlying22 hi0 hz0 hz1 hz2 rfl (by omega) u5 j (Q.flatMap CV.cells) rfl hP6.out (some ⟨w5.heap.size, 0, none⟩) 1 1 [.int .i64 id, .int .i64 fl, .slice a' len c'] rfl rfl hcl.out (by simp [Value.oneCell']) (by unfold maxLen; omega) (by omega) hbase.out ?_; intro v7 w7 hr7 hg7 hv7)
      go_roundw
      case rel =>
        refine ⟨j + 1, by omega, by go_num, Q ++ [⟨id, fl, a', c', K⟩], cflat_snoc hjL _ hQ.out (by rw [← hq.out]; unfold CV.flat; rw [hK.out]), ?_, ?_⟩
        · have hl2 : K.length = len := by have := congrArg List.length hK.out; simp at this; rw [this]; exact hl.out
          have hq2 := hQl.out
          subst hl2
          rw [← hq2] at hr7
          exact hP.out.more (q := ⟨id, fl, a', c', K⟩) B6 ho6.out hB.size hr7 hg7
        · refine (hB.trans (B6.mono hB.size)).trans ?_
          refine (Kp.grown hg7).below (fun k hk => ?_) hbase.out
          exact (World.ownsRow.lt hP.out.row k hk).1
      case measure => simp [intOf]; omega
    · obtain rfl : j = n := by omega
      replace hQ := hid hQ
      replace hP := hid hP
      go_wp2
      go_ret
      refine ⟨u5, Q, rfl, ?_, hP.out, hB⟩
      have := hQ.out
      rw [← hL.out, List.take_length] at this
      exact this

end Go.Proofs.Ythjggjjocfbjcaa
