/- SessionAsks answers true, whatever the asker and numbers. -/
import Derived.Test.YthjggjjocfbjcaaSameA
import Derived.Test.YthjggjjocfbjcaaAwake
namespace Go.Proofs.Ythjggjjocfbjcaa
open Go.RowKit

theorem ask_len (a : PA) (body : List UInt8) : (askP a body).1.2.2.2.length ≤ a.2.2.2.length + 1 := by
  unfold askP
  split
  · simp
  · split
    · simp
    · split
      · simp
      · split
        · simp
        · simp
theorem take_len (a : PA) (r : Int) : (takeP a r).1.2.2.2.length ≤ a.2.2.2.length := by
  unfold takeP
  split
  · simp
  · exact List.length_filter_le _ _
theorem flat_len {K : List KV} {L : List PK} {m : Nat} (h : K.map KV.flat = L) (hm : L.length = m) : K.length = m := by rw [← hm, ← h]; simp
theorem at_head {w : World} {a : Option Addr} {l m : List UInt8} (h : At w a (l ++ m)) : At w a l := by
  intro hne
  obtain ⟨b, o, e, hc⟩ := h (by intro e; exact hne (List.append_eq_nil_iff.1 e).1)
  refine ⟨b, o, e, fun i hi => ?_⟩
  have := hc i (by rw [List.length_append]; omega)
  rw [this, List.getElem_append_left hi]
section
variable {a : Act}
theorem args2 {x y : Operand} {u v : Value} (h : a.eval x = u) (k : a.eval y = v) : #[x, y].map a.eval = #[u, v] := by simp [h, k]
end
theorem eq_same3 (x : Int) (w : World) : (binOp .eql 3 (.int .i64 x) (.int .i64 x)).run Try.prog w = .ok (.bool true) w := by
  have : (x == x) = true := by simp
  go_simp
theorem eq_same25 (x : Int) (w : World) : (binOp .eql 25 (.int .i64 x) (.int .i64 x)).run Try.prog w = .ok (.bool true) w := by
  have : (x == x) = true := by simp
  go_simp
theorem eq_same4 (x : Bool) (w : World) : (binOp .eql 4 (.bool x) (.bool x)).run Try.prog w = .ok (.bool true) w := by
  cases x <;> go_simp

set_option maxRecDepth 100000 in
set_option maxHeartbeats 8000000 in
theorem asks_any (x0 id next acked : Int) (a : Option Addr) (n c : Nat) (ks : List KV) (ba : Option Addr) (bl bc : Nat) (body : List UInt8) (x3 : Int) (w : World) (hl : ks.length = n) (h : KAt w 0 a ks) (hnn : n * 32 ≤ SMALL) (hin : -9223372036854775808 ≤ next ∧ next ≤ 9223372036854775807) (hbl : body.length = bl) (hbs : bl ≤ 140737488351232) (hat : At w ba body) :
    Calls Try.prog 5 #[.int .i64 x0, .agg #[.int .i64 id, .int .i64 next, .int .i64 acked, .slice a n c], .slice ba bl bc, .int .i64 x3] w fun e w' => e = .returned (.bool true) ∧ Below w.heap.size w w' := by
  have BB := below_lit w (.cells #[.int .i64 id, .int .i64 next, .int .i64 acked, .slice a n c] 41)
  have q5 := ABlk.new w (.int .i64 id) (.int .i64 next) (.int .i64 acked) (.slice a n c)
  have hks := h.below BB
  have hbd := hat.below BB
  clear h hat
  replace hl := hid hl
  replace hbl := hid hbl
  obtain ⟨⟨⟨bi, bn, bk, bw⟩, be⟩, hbg⟩ : ∃ R, beginP x0 = R := ⟨_, rfl⟩
  obtain ⟨⟨⟨ri, rn, rk, rl⟩, r2, r3⟩, hR⟩ : ∃ R, askP (id, next, acked, ks.map KV.flat) body = R := ⟨_, rfl⟩
  obtain ⟨⟨⟨ti, tn, tk, tl⟩, t2, t3⟩, hT⟩ : ∃ R, takeP (id, next, acked, ks.map KV.flat) x3 = R := ⟨_, rfl⟩
  have rlen : rl.length ≤ n + 1 := by have := ask_len (id, next, acked, ks.map KV.flat) body; rw [hR] at this; simpa [hl.out] using this
  have tlen : tl.length ≤ n := by have := take_len (id, next, acked, ks.map KV.flat) x3; rw [hT] at this; simpa [hl.out] using this
  obtain ⟨rm, hrm⟩ : ∃ m, rl.length = m := ⟨_, rfl⟩
  obtain ⟨tm, htm⟩ : ∃ m, tl.length = m := ⟨_, rfl⟩
  rw [hrm] at rlen
  rw [htm] at tlen
  have hns := hnn
  unfold SMALL at hns
  replace hrm := hid hrm
  replace htm := hid htm
  replace hR := hid hR
  replace hT := hid hT
  replace hbg := hid hbg
  go_enter Try.func5, Try.ntmps5
  go_wp2_with fail
  obtain ⟨w1, hw1⟩ : ∃ w1, w1 = w.alloc (.cells #[.int .i64 id, .int .i64 next, .int .i64 acked, .slice a n c] 41) := ⟨_, rfl⟩
  rw [← hw1] at BB q5 hks hbd ⊢
  clear hw1
  refine (copya_any id next acked a n c 0 ks w1 hl.out hks hnn).mono ?_
  rintro e w2 ⟨a2, c2, Q, rfl, hQ, hA2, b2⟩
  replace hA2 := hA2.le (Nat.zero_le _)
  have hQl : Q.length = n := by have := congrArg List.length hQ; simpa [hl.out] using this
  replace hQ := hid hQ
  replace hQl := hid hQl
  replace q5 := q5.below b2
  replace hks := hks.below b2
  replace hbd := hbd.below b2
  replace BB := bnext BB b2
  clear b2
  go_wp2_with fail
  refine (lent_any ba bc bl body w2 hbl.out (by omega) hbd).mono ?_
  rintro e w3 ⟨g10, c10, rfl, hc10, hat10, b3⟩
  replace q5 := q5.below b3
  replace hks := hks.below b3
  replace hA2 := hA2.below b3
  replace hbd := hbd.below b3
  replace BB := bnext BB b3
  clear b3
  go_wp2_with fail
  have bw4 := below_lit w3 (.cells #[.int .i64 id, .int .i64 next, .int .i64 acked, .slice a2 n c2] 41)
  have q9 := ABlk.new w3 (.int .i64 id) (.int .i64 next) (.int .i64 acked) (.slice a2 n c2)
  obtain ⟨w4, ew4⟩ : ∃ W, W = w3.alloc (.cells #[.int .i64 id, .int .i64 next, .int .i64 acked, .slice a2 n c2] 41) := ⟨_, rfl⟩
  rw [← ew4] at bw4 q9 ⊢
  clear ew4
  replace q5 := q5.below bw4
  replace hks := hks.below bw4
  replace hA2 := hA2.below bw4
  replace hbd := hbd.below bw4
  replace hat10 := hat10.below bw4
  replace BB := bnext BB bw4
  clear bw4
  have hc := begin_any x0 w4
  rw [hbg.out] at hc
  refine hc.mono ?_
  clear hc
  rintro e w5 ⟨rfl, b5⟩
  replace q5 := q5.below b5
  replace q9 := q9.below b5
  replace hks := hks.below b5
  replace hA2 := hA2.below b5
  replace hbd := hbd.below b5
  replace hat10 := hat10.below b5
  replace BB := bnext BB b5
  clear b5
  go_wp2_with fail
  have bw6 := below_lit w5 (.cells #[.int .i64 bi, .int .i64 bn, .int .i64 bk, .slice none 0 0] 41)
  have q11 := ABlk.new w5 (.int .i64 bi) (.int .i64 bn) (.int .i64 bk) (.slice none 0 0)
  obtain ⟨w6, ew6⟩ : ∃ W, W = w5.alloc (.cells #[.int .i64 bi, .int .i64 bn, .int .i64 bk, .slice none 0 0] 41) := ⟨_, rfl⟩
  rw [← ew6] at bw6 q11 ⊢
  clear ew6
  replace q5 := q5.below bw6
  replace q9 := q9.below bw6
  replace hks := hks.below bw6
  replace hA2 := hA2.below bw6
  replace hbd := hbd.below bw6
  replace hat10 := hat10.below bw6
  replace BB := bnext BB bw6
  clear bw6
  have hc := bref_any x0 w6
  rw [hbg.out] at hc
  refine hc.mono ?_
  clear hc
  rintro e w7 ⟨rfl, b7⟩
  replace q5 := q5.below b7
  replace q9 := q9.below b7
  replace q11 := q11.below b7
  replace hks := hks.below b7
  replace hA2 := hA2.below b7
  replace hbd := hbd.below b7
  replace hat10 := hat10.below b7
  replace BB := bnext BB b7
  clear b7
  have y0 := q9.cell0
  have y1 := q9.cell1
  have y2 := q9.cell2
  have y3 := q9.cell3
  have ylt := q9.lt
  go_wp2_with fail
  clear y0 y1 y2 y3 ylt
  have bw8 := below_lit w7 (.cells #[.int .i64 bi, .int .i64 bn, .int .i64 bk, .slice none 0 0] 41)
  have q13 := ABlk.new w7 (.int .i64 bi) (.int .i64 bn) (.int .i64 bk) (.slice none 0 0)
  obtain ⟨w8, ew8⟩ : ∃ W, W = w7.alloc (.cells #[.int .i64 bi, .int .i64 bn, .int .i64 bk, .slice none 0 0] 41) := ⟨_, rfl⟩
  rw [← ew8] at bw8 q13 ⊢
  clear ew8
  replace q5 := q5.below bw8
  replace q9 := q9.below bw8
  replace q11 := q11.below bw8
  replace hks := hks.below bw8
  replace hA2 := hA2.below bw8
  replace hbd := hbd.below bw8
  replace hat10 := hat10.below bw8
  replace BB := bnext BB bw8
  clear bw8
  have hc := ask_any id next acked a2 n c2 0 Q (some ⟨g10, 0, none⟩) bl c10 body w8 hQl.out hA2 hnn hin hbl.out (by omega) (at_head hat10)
  rw [hQ.out, hR.out] at hc
  refine hc.mono ?_
  clear hc
  rintro e w9 ⟨a15, a15c, K15, rfl, hK15, kK15, bw9⟩
  simp only [askV, hrm.out]
  replace kK15 := kK15.le (Nat.zero_le _)
  replace hK15 := hid hK15
  replace q5 := q5.below bw9
  replace q9 := q9.below bw9
  replace q11 := q11.below bw9
  replace q13 := q13.below bw9
  replace hks := hks.below bw9
  replace hA2 := hA2.below bw9
  replace hbd := hbd.below bw9
  replace hat10 := hat10.below bw9
  replace BB := bnext BB bw9
  clear bw9
  have y0 := q5.cell0
  have y1 := q5.cell1
  have y2 := q5.cell2
  have y3 := q5.cell3
  have ylt := q5.lt
  go_wp2_with fail
  clear y0 y1 y2 y3 ylt
  have bw9s := below_lit w9 (.cells #[.int .i64 ri, .int .i64 rn, .int .i64 rk, .slice a15 rm a15c] 41)
  have q15 := ABlk.new w9 (.int .i64 ri) (.int .i64 rn) (.int .i64 rk) (.slice a15 rm a15c)
  obtain ⟨w9s, ew9s⟩ : ∃ W, W = w9.alloc (.cells #[.int .i64 ri, .int .i64 rn, .int .i64 rk, .slice a15 rm a15c] 41) := ⟨_, rfl⟩
  rw [← ew9s] at bw9s q15 ⊢
  clear ew9s
  replace q5 := q5.below bw9s
  replace q9 := q9.below bw9s
  replace q11 := q11.below bw9s
  replace q13 := q13.below bw9s
  replace hks := hks.below bw9s
  replace hA2 := hA2.below bw9s
  replace kK15 := kK15.below bw9s
  replace hbd := hbd.below bw9s
  replace hat10 := hat10.below bw9s
  replace BB := bnext BB bw9s
  clear bw9s
  have hc := askref_any id next acked a n c 0 ks ba bl bc body w9s hl.out hks hnn hbl.out (by omega) hbd
  rw [hR.out] at hc
  refine hc.mono ?_
  clear hc
  rintro e w10 ⟨a18, a18c, K18, rfl, hK18, kK18, bw10⟩
  simp only [askV, hrm.out]
  replace kK18 := kK18.le (Nat.zero_le _)
  replace hK18 := hid hK18
  replace q5 := q5.below bw10
  replace q9 := q9.below bw10
  replace q11 := q11.below bw10
  replace q13 := q13.below bw10
  replace q15 := q15.below bw10
  replace hks := hks.below bw10
  replace hA2 := hA2.below bw10
  replace kK15 := kK15.below bw10
  replace hbd := hbd.below bw10
  replace hat10 := hat10.below bw10
  replace BB := bnext BB bw10
  clear bw10
  have y0 := q9.cell0
  have y1 := q9.cell1
  have y2 := q9.cell2
  have y3 := q9.cell3
  have ylt := q9.lt
  go_wp2_with fail
  clear y0 y1 y2 y3 ylt
  have bw10s := below_lit w10 (.cells #[.int .i64 ri, .int .i64 rn, .int .i64 rk, .slice a18 rm a18c] 41)
  have q18 := ABlk.new w10 (.int .i64 ri) (.int .i64 rn) (.int .i64 rk) (.slice a18 rm a18c)
  obtain ⟨w10s, ew10s⟩ : ∃ W, W = w10.alloc (.cells #[.int .i64 ri, .int .i64 rn, .int .i64 rk, .slice a18 rm a18c] 41) := ⟨_, rfl⟩
  rw [← ew10s] at bw10s q18 ⊢
  clear ew10s
  replace q5 := q5.below bw10s
  replace q9 := q9.below bw10s
  replace q11 := q11.below bw10s
  replace q13 := q13.below bw10s
  replace q15 := q15.below bw10s
  replace hks := hks.below bw10s
  replace hA2 := hA2.below bw10s
  replace kK15 := kK15.below bw10s
  replace kK18 := kK18.below bw10s
  replace hbd := hbd.below bw10s
  replace hat10 := hat10.below bw10s
  replace BB := bnext BB bw10s
  clear bw10s
  have hc := take_any id next acked x3 a2 n c2 0 Q w10s hQl.out hA2 hnn hin
  rw [hQ.out, hT.out] at hc
  refine hc.mono ?_
  clear hc
  rintro e w11 ⟨a21, a21c, K21, rfl, hK21, kK21, bw11⟩
  simp only [askV, htm.out]
  replace kK21 := kK21.le (Nat.zero_le _)
  replace hK21 := hid hK21
  replace q5 := q5.below bw11
  replace q9 := q9.below bw11
  replace q11 := q11.below bw11
  replace q13 := q13.below bw11
  replace q15 := q15.below bw11
  replace q18 := q18.below bw11
  replace hks := hks.below bw11
  replace hA2 := hA2.below bw11
  replace kK15 := kK15.below bw11
  replace kK18 := kK18.below bw11
  replace hbd := hbd.below bw11
  replace hat10 := hat10.below bw11
  replace BB := bnext BB bw11
  clear bw11
  have y0 := q5.cell0
  have y1 := q5.cell1
  have y2 := q5.cell2
  have y3 := q5.cell3
  have ylt := q5.lt
  go_wp2_with fail
  clear y0 y1 y2 y3 ylt
  have bw11s := below_lit w11 (.cells #[.int .i64 ti, .int .i64 tn, .int .i64 tk, .slice a21 tm a21c] 41)
  have q21 := ABlk.new w11 (.int .i64 ti) (.int .i64 tn) (.int .i64 tk) (.slice a21 tm a21c)
  obtain ⟨w11s, ew11s⟩ : ∃ W, W = w11.alloc (.cells #[.int .i64 ti, .int .i64 tn, .int .i64 tk, .slice a21 tm a21c] 41) := ⟨_, rfl⟩
  rw [← ew11s] at bw11s q21 ⊢
  clear ew11s
  replace q5 := q5.below bw11s
  replace q9 := q9.below bw11s
  replace q11 := q11.below bw11s
  replace q13 := q13.below bw11s
  replace q15 := q15.below bw11s
  replace q18 := q18.below bw11s
  replace hks := hks.below bw11s
  replace hA2 := hA2.below bw11s
  replace kK15 := kK15.below bw11s
  replace kK18 := kK18.below bw11s
  replace kK21 := kK21.below bw11s
  replace hbd := hbd.below bw11s
  replace hat10 := hat10.below bw11s
  replace BB := bnext BB bw11s
  clear bw11s
  have hc := takeref_any id next acked x3 a n c 0 ks w11s hl.out hks hnn
  rw [hT.out] at hc
  refine hc.mono ?_
  clear hc
  rintro e w12 ⟨a24, a24c, K24, rfl, hK24, kK24, bw12⟩
  simp only [askV, htm.out]
  replace kK24 := kK24.le (Nat.zero_le _)
  replace hK24 := hid hK24
  replace q5 := q5.below bw12
  replace q9 := q9.below bw12
  replace q11 := q11.below bw12
  replace q13 := q13.below bw12
  replace q15 := q15.below bw12
  replace q18 := q18.below bw12
  replace q21 := q21.below bw12
  replace hks := hks.below bw12
  replace hA2 := hA2.below bw12
  replace kK15 := kK15.below bw12
  replace kK18 := kK18.below bw12
  replace kK21 := kK21.below bw12
  replace hbd := hbd.below bw12
  replace hat10 := hat10.below bw12
  replace BB := bnext BB bw12
  clear bw12
  go_wp2_with fail
  have bw12s := below_lit w12 (.cells #[.int .i64 ti, .int .i64 tn, .int .i64 tk, .slice a24 tm a24c] 41)
  have q24 := ABlk.new w12 (.int .i64 ti) (.int .i64 tn) (.int .i64 tk) (.slice a24 tm a24c)
  obtain ⟨w12s, ew12s⟩ : ∃ W, W = w12.alloc (.cells #[.int .i64 ti, .int .i64 tn, .int .i64 tk, .slice a24 tm a24c] 41) := ⟨_, rfl⟩
  rw [← ew12s] at bw12s q24 ⊢
  clear ew12s
  replace q5 := q5.below bw12s
  replace q9 := q9.below bw12s
  replace q11 := q11.below bw12s
  replace q13 := q13.below bw12s
  replace q15 := q15.below bw12s
  replace q18 := q18.below bw12s
  replace q21 := q21.below bw12s
  replace hks := hks.below bw12s
  replace hA2 := hA2.below bw12s
  replace kK15 := kK15.below bw12s
  replace kK18 := kK18.below bw12s
  replace kK21 := kK21.below bw12s
  replace kK24 := kK24.below bw12s
  replace hbd := hbd.below bw12s
  replace hat10 := hat10.below bw12s
  replace BB := bnext BB bw12s
  clear bw12s
  go_wp2_with fail
  obtain ⟨G, hG⟩ : ∃ G, rightA (id, next, acked, ks.map KV.flat) = G := ⟨_, rfl⟩
  have C14 : ∀ W, Below w12s.heap.size w12s W → Calls Try.prog 14 #[.agg #[.int .i64 id, .int .i64 next, .int .i64 acked, .slice a2 n c2]] W fun e w' => e = .returned (.bool G) ∧ Below W.heap.size W w' := fun W hb => by have := righta_any id next acked a2 n c2 0 Q W hQl.out (hA2.below hb) (by omega) hin; rw [hQ.out, hG] at this; exact this
  have C28 : ∀ W, Below w12s.heap.size w12s W → Calls Try.prog 28 #[.agg #[.int .i64 id, .int .i64 next, .int .i64 acked, .slice a n c]] W fun e w' => e = .returned (.bool G) ∧ Below W.heap.size W w' := fun W hb => by have := rref_any id next acked a n c 0 ks W hl.out (hks.below hb) (by omega); rw [hG] at this; exact this
  have C29a : ∀ W, Below w12s.heap.size w12s W → Calls Try.prog 29 #[.agg #[.int .i64 bi, .int .i64 bn, .int .i64 bk, .slice none 0 0], .agg #[.int .i64 bi, .int .i64 bn, .int .i64 bk, .slice none 0 0]] W fun e w' => e = .returned (.bool true) ∧ Below W.heap.size W w' := fun W hb => samea_any bi bn bk none none 0 0 0 0 0 [] [] W rfl rfl rfl (KAt.nil _ _) (KAt.nil _ _) (by omega)
  have C29b : ∀ W, Below w12s.heap.size w12s W → Calls Try.prog 29 #[.agg #[.int .i64 ri, .int .i64 rn, .int .i64 rk, .slice a15 rm a15c], .agg #[.int .i64 ri, .int .i64 rn, .int .i64 rk, .slice a18 rm a18c]] W fun e w' => e = .returned (.bool true) ∧ Below W.heap.size W w' := fun W hb => samea_any ri rn rk a15 a18 rm a15c a18c 0 0 K15 K18 W (flat_len hK15.out hrm.out) (flat_len hK18.out hrm.out) (hK15.out.trans hK18.out.symm) (kK15.below hb) (kK18.below hb) (by omega)
  have C29c : ∀ W, Below w12s.heap.size w12s W → Calls Try.prog 29 #[.agg #[.int .i64 ti, .int .i64 tn, .int .i64 tk, .slice a21 tm a21c], .agg #[.int .i64 ti, .int .i64 tn, .int .i64 tk, .slice a24 tm a24c]] W fun e w' => e = .returned (.bool true) ∧ Below W.heap.size W w' := fun W hb => samea_any ti tn tk a21 a24 tm a21c a24c 0 0 K21 K24 W (flat_len hK21.out htm.out) (flat_len hK24.out htm.out) (hK21.out.trans hK24.out.symm) (kK21.below hb) (kK24.below hb) (by omega)
  have C29d : ∀ W, Below w12s.heap.size w12s W → Calls Try.prog 29 #[.agg #[.int .i64 id, .int .i64 next, .int .i64 acked, .slice a2 n c2], .agg #[.int .i64 id, .int .i64 next, .int .i64 acked, .slice a n c]] W fun e w' => e = .returned (.bool true) ∧ Below W.heap.size W w' := fun W hb => samea_any id next acked a2 a n c2 c 0 0 Q ks W hQl.out hl.out hQ.out (hA2.below hb) (hks.below hb) (by omega)
  have C23 : ∀ W, Below w12s.heap.size w12s W → Calls Try.prog 23 #[.slice (some ⟨g10, 0, none⟩) bl c10, .slice ba bl bc] W fun e w' => e = .returned (.bool true) ∧ Below W.heap.size W w' := fun W hb => (kept_any g10 c10 bc bl ba body W hbl.out (by omega) hc10 (hat10.below hb) (hbd.below hb)).mono (by rintro e w' ⟨rfl, rfl⟩; exact ⟨rfl, Below.refl _ _⟩)
  refine wp_region_drawn (Rel := fun w w' => Below w.heap.size w w') (Pr := fun q v _ => v = ([.agg #[.int .i64 id, .int .i64 next, .int .i64 acked, .slice a2 n c2], .bool G, .agg #[.int .i64 id, .int .i64 next, .int .i64 acked, .slice a n c], .bool G, .bool true, .bool true, .int .i64 be, .int .i64 be, .bool true, .bool true, .bool true, .agg #[.int .i64 bi, .int .i64 bn, .int .i64 bk, .slice none 0 0], .agg #[.int .i64 bi, .int .i64 bn, .int .i64 bk, .slice none 0 0], .bool true, .bool true, .bool true, .int .i64 r2, .int .i64 r2, .bool true, .bool true, .bool true, .int .i64 r3, .int .i64 r3, .bool true, .bool true, .bool true, .agg #[.int .i64 ri, .int .i64 rn, .int .i64 rk, .slice a15 rm a15c], .agg #[.int .i64 ri, .int .i64 rn, .int .i64 rk, .slice a18 rm a18c], .bool true, .bool true, .bool true, .bool t2, .bool t2, .bool true, .bool true, .bool true, .int .i64 t3, .int .i64 t3, .bool true, .bool true, .bool true, .agg #[.int .i64 ti, .int .i64 tn, .int .i64 tk, .slice a21 tm a21c], .agg #[.int .i64 ti, .int .i64 tn, .int .i64 tk, .slice a24 tm a24c], .bool true, .bool true, .bool true, .agg #[.int .i64 id, .int .i64 next, .int .i64 acked, .slice a2 n c2], .agg #[.int .i64 id, .int .i64 next, .int .i64 acked, .slice a n c], .bool true, .bool true, .bool true, .slice (some ⟨g10, 0, none⟩) bl c10, .slice ba bl bc, .bool true, .bool true, .bool true, .bool true, .bool true, .bool true]).getD q undef) (by kernel_rfl) (by kernel_rfl) (drew_below _) bel_tr (fun _ _ _ _ h _ => h) ?_ ?_
  · refine ⟨?_, ?_, ?_, ?_, ?_, ?_, ?_, ?_, ?_, ?_, ?_, ?_, ?_, ?_, ?_, ?_, ?_, ?_, ?_, ?_, ?_, ?_, ?_, ?_, ?_, ?_, ?_, ?_, ?_, ?_, ?_, ?_, ?_, ?_, ?_, ?_, ?_, ?_, ?_, ?_, ?_, ?_, ?_, ?_, ?_, ?_, ?_, ?_, ?_, ?_, ?_, ?_, ?_, ?_, ?_, ?_, ?_, ?_, ?_, trivial⟩
    · exact fun a w hR hd hk K hK => yes (want_n rfl) (wp_load_row _ _ rfl _ (get_keep (hk 9 (no_dst (by kernel_rfl))) rfl) 41 _ _ _ (q9.below hR) Try.underlying41 rfl info41 (hK _ w rfl (Below.refl _ _)))
    · exact fun a w hR hd hk K hK => yes (want_n rfl) (wp_callv 14 _ _ rfl _ Try.func14 rfl rfl _ (args1 (hd 0 _ 69 rfl rfl rfl)) (C14 w hR) (by rintro e w' ⟨rfl, hb⟩; exact ⟨_, rfl, hK _ w' rfl hb⟩))
    · exact fun a w hR hd hk K hK => yes (want_n rfl) (wp_load_row _ _ rfl _ (get_keep (hk 5 (no_dst (by kernel_rfl))) rfl) 41 _ _ _ (q5.below hR) Try.underlying41 rfl info41 (hK _ w rfl (Below.refl _ _)))
    · exact fun a w hR hd hk K hK => yes (want_n rfl) (wp_callv 28 _ _ rfl _ Try.func28 rfl rfl _ (args1 (hd 2 _ 71 rfl rfl rfl)) (C28 w hR) (by rintro e w' ⟨rfl, hb⟩; exact ⟨_, rfl, hK _ w' rfl hb⟩))
    · exact fun a w hR hd hk K hK => yes (want_n rfl) (wp_bin _ _ _ _ _ rfl _ _ _ (hd 1 _ 70 rfl rfl rfl) (hd 3 _ 72 rfl rfl rfl) rfl (eq_same4 _ _) (hK _ w rfl (Below.refl _ _)))
    · exact fun a w hR hd hk K hK => yes (want_n rfl) (wp_mv _ rfl _ (hd 4 _ 73 rfl rfl rfl) (hK _ w rfl (Below.refl _ _)))
    · exact fun a w hR hd hk K hK => yes (want_g rfl rfl (hd 5 _ 74 rfl rfl rfl)) (wp_mv _ rfl _ (get_keep (hk 12 (no_dst (by kernel_rfl))) rfl) (hK _ w rfl (Below.refl _ _)))
    · exact fun a w hR hd hk K hK => yes (want_g rfl rfl (hd 5 _ 74 rfl rfl rfl)) (wp_mv _ rfl _ (get_keep (hk 14 (no_dst (by kernel_rfl))) rfl) (hK _ w rfl (Below.refl _ _)))
    · exact fun a w hR hd hk K hK => yes (want_g rfl rfl (hd 5 _ 74 rfl rfl rfl)) (wp_bin _ _ _ _ _ rfl _ _ _ (hd 6 _ 75 rfl rfl rfl) (hd 7 _ 76 rfl rfl rfl) rfl (eq_same25 _ _) (hK _ w rfl (Below.refl _ _)))
    · exact fun a w hR hd hk K hK => yes (want_n rfl) (wp_pick _ _ _ rfl true _ (hd 5 _ 74 rfl rfl rfl) (hd 8 _ 77 rfl rfl rfl) (hK _ w rfl (Below.refl _ _)))
    · exact fun a w hR hd hk K hK => yes (want_n rfl) (wp_mv _ rfl _ (hd 9 _ 78 rfl rfl rfl) (hK _ w rfl (Below.refl _ _)))
    · exact fun a w hR hd hk K hK => yes (want_g rfl rfl (hd 10 _ 79 rfl rfl rfl)) (wp_load_row _ _ rfl _ (get_keep (hk 11 (no_dst (by kernel_rfl))) rfl) 41 _ _ _ (q11.below hR) Try.underlying41 rfl info41 (hK _ w rfl (Below.refl _ _)))
    · exact fun a w hR hd hk K hK => yes (want_g rfl rfl (hd 10 _ 79 rfl rfl rfl)) (wp_load_row _ _ rfl _ (get_keep (hk 13 (no_dst (by kernel_rfl))) rfl) 41 _ _ _ (q13.below hR) Try.underlying41 rfl info41 (hK _ w rfl (Below.refl _ _)))
    · exact fun a w hR hd hk K hK => yes (want_g rfl rfl (hd 10 _ 79 rfl rfl rfl)) (wp_callv 29 _ _ rfl _ Try.func29 rfl rfl _ (args2 (hd 11 _ 80 rfl rfl rfl) (hd 12 _ 81 rfl rfl rfl)) (C29a w hR) (by rintro e w' ⟨rfl, hb⟩; exact ⟨_, rfl, hK _ w' rfl hb⟩))
    · exact fun a w hR hd hk K hK => yes (want_n rfl) (wp_pick _ _ _ rfl true _ (hd 10 _ 79 rfl rfl rfl) (hd 13 _ 82 rfl rfl rfl) (hK _ w rfl (Below.refl _ _)))
    · exact fun a w hR hd hk K hK => yes (want_n rfl) (wp_mv _ rfl _ (hd 14 _ 83 rfl rfl rfl) (hK _ w rfl (Below.refl _ _)))
    · exact fun a w hR hd hk K hK => yes (want_g rfl rfl (hd 15 _ 84 rfl rfl rfl)) (wp_mv _ rfl _ (get_keep (hk 16 (no_dst (by kernel_rfl))) rfl) (hK _ w rfl (Below.refl _ _)))
    · exact fun a w hR hd hk K hK => yes (want_g rfl rfl (hd 15 _ 84 rfl rfl rfl)) (wp_mv _ rfl _ (get_keep (hk 19 (no_dst (by kernel_rfl))) rfl) (hK _ w rfl (Below.refl _ _)))
    · exact fun a w hR hd hk K hK => yes (want_g rfl rfl (hd 15 _ 84 rfl rfl rfl)) (wp_bin _ _ _ _ _ rfl _ _ _ (hd 16 _ 85 rfl rfl rfl) (hd 17 _ 86 rfl rfl rfl) rfl (eq_same3 _ _) (hK _ w rfl (Below.refl _ _)))
    · exact fun a w hR hd hk K hK => yes (want_n rfl) (wp_pick _ _ _ rfl true _ (hd 15 _ 84 rfl rfl rfl) (hd 18 _ 87 rfl rfl rfl) (hK _ w rfl (Below.refl _ _)))
    · exact fun a w hR hd hk K hK => yes (want_n rfl) (wp_mv _ rfl _ (hd 19 _ 88 rfl rfl rfl) (hK _ w rfl (Below.refl _ _)))
    · exact fun a w hR hd hk K hK => yes (want_g rfl rfl (hd 20 _ 89 rfl rfl rfl)) (wp_mv _ rfl _ (get_keep (hk 17 (no_dst (by kernel_rfl))) rfl) (hK _ w rfl (Below.refl _ _)))
    · exact fun a w hR hd hk K hK => yes (want_g rfl rfl (hd 20 _ 89 rfl rfl rfl)) (wp_mv _ rfl _ (get_keep (hk 20 (no_dst (by kernel_rfl))) rfl) (hK _ w rfl (Below.refl _ _)))
    · exact fun a w hR hd hk K hK => yes (want_g rfl rfl (hd 20 _ 89 rfl rfl rfl)) (wp_bin _ _ _ _ _ rfl _ _ _ (hd 21 _ 90 rfl rfl rfl) (hd 22 _ 91 rfl rfl rfl) rfl (eq_same25 _ _) (hK _ w rfl (Below.refl _ _)))
    · exact fun a w hR hd hk K hK => yes (want_n rfl) (wp_pick _ _ _ rfl true _ (hd 20 _ 89 rfl rfl rfl) (hd 23 _ 92 rfl rfl rfl) (hK _ w rfl (Below.refl _ _)))
    · exact fun a w hR hd hk K hK => yes (want_n rfl) (wp_mv _ rfl _ (hd 24 _ 93 rfl rfl rfl) (hK _ w rfl (Below.refl _ _)))
    · exact fun a w hR hd hk K hK => yes (want_g rfl rfl (hd 25 _ 94 rfl rfl rfl)) (wp_load_row _ _ rfl _ (get_keep (hk 15 (no_dst (by kernel_rfl))) rfl) 41 _ _ _ (q15.below hR) Try.underlying41 rfl info41 (hK _ w rfl (Below.refl _ _)))
    · exact fun a w hR hd hk K hK => yes (want_g rfl rfl (hd 25 _ 94 rfl rfl rfl)) (wp_load_row _ _ rfl _ (get_keep (hk 18 (no_dst (by kernel_rfl))) rfl) 41 _ _ _ (q18.below hR) Try.underlying41 rfl info41 (hK _ w rfl (Below.refl _ _)))
    · exact fun a w hR hd hk K hK => yes (want_g rfl rfl (hd 25 _ 94 rfl rfl rfl)) (wp_callv 29 _ _ rfl _ Try.func29 rfl rfl _ (args2 (hd 26 _ 95 rfl rfl rfl) (hd 27 _ 96 rfl rfl rfl)) (C29b w hR) (by rintro e w' ⟨rfl, hb⟩; exact ⟨_, rfl, hK _ w' rfl hb⟩))
    · exact fun a w hR hd hk K hK => yes (want_n rfl) (wp_pick _ _ _ rfl true _ (hd 25 _ 94 rfl rfl rfl) (hd 28 _ 97 rfl rfl rfl) (hK _ w rfl (Below.refl _ _)))
    · exact fun a w hR hd hk K hK => yes (want_n rfl) (wp_mv _ rfl _ (hd 29 _ 98 rfl rfl rfl) (hK _ w rfl (Below.refl _ _)))
    · exact fun a w hR hd hk K hK => yes (want_g rfl rfl (hd 30 _ 99 rfl rfl rfl)) (wp_mv _ rfl _ (get_keep (hk 22 (no_dst (by kernel_rfl))) rfl) (hK _ w rfl (Below.refl _ _)))
    · exact fun a w hR hd hk K hK => yes (want_g rfl rfl (hd 30 _ 99 rfl rfl rfl)) (wp_mv _ rfl _ (get_keep (hk 25 (no_dst (by kernel_rfl))) rfl) (hK _ w rfl (Below.refl _ _)))
    · exact fun a w hR hd hk K hK => yes (want_g rfl rfl (hd 30 _ 99 rfl rfl rfl)) (wp_bin _ _ _ _ _ rfl _ _ _ (hd 31 _ 100 rfl rfl rfl) (hd 32 _ 101 rfl rfl rfl) rfl (eq_same4 _ _) (hK _ w rfl (Below.refl _ _)))
    · exact fun a w hR hd hk K hK => yes (want_n rfl) (wp_pick _ _ _ rfl true _ (hd 30 _ 99 rfl rfl rfl) (hd 33 _ 102 rfl rfl rfl) (hK _ w rfl (Below.refl _ _)))
    · exact fun a w hR hd hk K hK => yes (want_n rfl) (wp_mv _ rfl _ (hd 34 _ 103 rfl rfl rfl) (hK _ w rfl (Below.refl _ _)))
    · exact fun a w hR hd hk K hK => yes (want_g rfl rfl (hd 35 _ 104 rfl rfl rfl)) (wp_mv _ rfl _ (get_keep (hk 23 (no_dst (by kernel_rfl))) rfl) (hK _ w rfl (Below.refl _ _)))
    · exact fun a w hR hd hk K hK => yes (want_g rfl rfl (hd 35 _ 104 rfl rfl rfl)) (wp_mv _ rfl _ (get_keep (hk 26 (no_dst (by kernel_rfl))) rfl) (hK _ w rfl (Below.refl _ _)))
    · exact fun a w hR hd hk K hK => yes (want_g rfl rfl (hd 35 _ 104 rfl rfl rfl)) (wp_bin _ _ _ _ _ rfl _ _ _ (hd 36 _ 105 rfl rfl rfl) (hd 37 _ 106 rfl rfl rfl) rfl (eq_same25 _ _) (hK _ w rfl (Below.refl _ _)))
    · exact fun a w hR hd hk K hK => yes (want_n rfl) (wp_pick _ _ _ rfl true _ (hd 35 _ 104 rfl rfl rfl) (hd 38 _ 107 rfl rfl rfl) (hK _ w rfl (Below.refl _ _)))
    · exact fun a w hR hd hk K hK => yes (want_n rfl) (wp_mv _ rfl _ (hd 39 _ 108 rfl rfl rfl) (hK _ w rfl (Below.refl _ _)))
    · exact fun a w hR hd hk K hK => yes (want_g rfl rfl (hd 40 _ 109 rfl rfl rfl)) (wp_load_row _ _ rfl _ (get_keep (hk 21 (no_dst (by kernel_rfl))) rfl) 41 _ _ _ (q21.below hR) Try.underlying41 rfl info41 (hK _ w rfl (Below.refl _ _)))
    · exact fun a w hR hd hk K hK => yes (want_g rfl rfl (hd 40 _ 109 rfl rfl rfl)) (wp_load_row _ _ rfl _ (get_keep (hk 24 (no_dst (by kernel_rfl))) rfl) 41 _ _ _ (q24.below hR) Try.underlying41 rfl info41 (hK _ w rfl (Below.refl _ _)))
    · exact fun a w hR hd hk K hK => yes (want_g rfl rfl (hd 40 _ 109 rfl rfl rfl)) (wp_callv 29 _ _ rfl _ Try.func29 rfl rfl _ (args2 (hd 41 _ 110 rfl rfl rfl) (hd 42 _ 111 rfl rfl rfl)) (C29c w hR) (by rintro e w' ⟨rfl, hb⟩; exact ⟨_, rfl, hK _ w' rfl hb⟩))
    · exact fun a w hR hd hk K hK => yes (want_n rfl) (wp_pick _ _ _ rfl true _ (hd 40 _ 109 rfl rfl rfl) (hd 43 _ 112 rfl rfl rfl) (hK _ w rfl (Below.refl _ _)))
    · exact fun a w hR hd hk K hK => yes (want_n rfl) (wp_mv _ rfl _ (hd 44 _ 113 rfl rfl rfl) (hK _ w rfl (Below.refl _ _)))
    · exact fun a w hR hd hk K hK => yes (want_g rfl rfl (hd 45 _ 114 rfl rfl rfl)) (wp_load_row _ _ rfl _ (get_keep (hk 9 (no_dst (by kernel_rfl))) rfl) 41 _ _ _ (q9.below hR) Try.underlying41 rfl info41 (hK _ w rfl (Below.refl _ _)))
    · exact fun a w hR hd hk K hK => yes (want_g rfl rfl (hd 45 _ 114 rfl rfl rfl)) (wp_load_row _ _ rfl _ (get_keep (hk 5 (no_dst (by kernel_rfl))) rfl) 41 _ _ _ (q5.below hR) Try.underlying41 rfl info41 (hK _ w rfl (Below.refl _ _)))
    · exact fun a w hR hd hk K hK => yes (want_g rfl rfl (hd 45 _ 114 rfl rfl rfl)) (wp_callv 29 _ _ rfl _ Try.func29 rfl rfl _ (args2 (hd 46 _ 115 rfl rfl rfl) (hd 47 _ 116 rfl rfl rfl)) (C29d w hR) (by rintro e w' ⟨rfl, hb⟩; exact ⟨_, rfl, hK _ w' rfl hb⟩))
    · exact fun a w hR hd hk K hK => yes (want_n rfl) (wp_pick _ _ _ rfl true _ (hd 45 _ 114 rfl rfl rfl) (hd 48 _ 117 rfl rfl rfl) (hK _ w rfl (Below.refl _ _)))
    · exact fun a w hR hd hk K hK => yes (want_n rfl) (wp_mv _ rfl _ (hd 49 _ 118 rfl rfl rfl) (hK _ w rfl (Below.refl _ _)))
    · exact fun a w hR hd hk K hK => yes (want_g rfl rfl (hd 50 _ 119 rfl rfl rfl)) (wp_mv _ rfl _ (get_keep (hk 10 (no_dst (by kernel_rfl))) rfl) (hK _ w rfl (Below.refl _ _)))
    · exact fun a w hR hd hk K hK => yes (want_g rfl rfl (hd 50 _ 119 rfl rfl rfl)) (wp_mv _ rfl _ (get_keep (hk 2 (no_dst (by kernel_rfl))) rfl) (hK _ w rfl (Below.refl _ _)))
    · exact fun a w hR hd hk K hK => yes (want_g rfl rfl (hd 50 _ 119 rfl rfl rfl)) (wp_callv 23 _ _ rfl _ Try.func23 rfl rfl _ (args2 (hd 51 _ 120 rfl rfl rfl) (hd 52 _ 121 rfl rfl rfl)) (C23 w hR) (by rintro e w' ⟨rfl, hb⟩; exact ⟨_, rfl, hK _ w' rfl hb⟩))
    · exact fun a w hR hd hk K hK => yes (want_n rfl) (wp_pick _ _ _ rfl true _ (hd 50 _ 119 rfl rfl rfl) (hd 53 _ 122 rfl rfl rfl) (hK _ w rfl (Below.refl _ _)))
    · exact fun a w hR hd hk K hK => yes (want_n rfl) (wp_mv _ rfl _ (hd 54 _ 123 rfl rfl rfl) (hK _ w rfl (Below.refl _ _)))
    · exact fun a w hR hd hk K hK => yes (want_g rfl rfl (hd 55 _ 124 rfl rfl rfl)) (wp_callv 15 _ _ rfl _ Try.func15 rfl rfl _ args0 (awake_any w) (by rintro e w' ⟨rfl, hb⟩; exact ⟨_, rfl, hK _ w' rfl hb⟩))
    · exact fun a w hR hd hk K hK => yes (want_n rfl) (wp_pick _ _ _ rfl true _ (hd 55 _ 124 rfl rfl rfl) (hd 56 _ 125 rfl rfl rfl) (hK _ w rfl (Below.refl _ _)))
    · exact fun a w hR hd hk K hK => yes (want_n rfl) (wp_as _ rfl _ (hd 57 _ 126 rfl rfl rfl) (hK _ w rfl (Below.refl _ _)))
  · intro a w13 hdf hsz hkp hval hRw
    obtain ⟨f, hf⟩ : ∃ f, f = fun d => a.tmps.getD d undef := ⟨_, rfl⟩
    have h8' : f 8 = .bool true := by rw [hf]; exact hval 58 _ 8 rfl rfl
    have hfa := act_filled hdf hsz hkp
    rw [← hf] at hfa
    rw [hfa]
    clear hdf hsz hkp hval hfa hf
    clear a
    simp only [fillAll, List.set_cons_zero, List.set_cons_succ, h8']
    go_wp2
    go_ret
    exact ⟨rfl, bnext BB hRw⟩

end Go.Proofs.Ythjggjjocfbjcaa
