/- What the document's reading of one field answers: texts. -/
import Derived.Test.YtkkdiciadkcmmaaRefOne3
namespace Go.Proofs.Ytkkdiciadkcmmaa
open Go.RowKit

/-- What stands in a round: the texts so far. -/
structure OneT (l : List UInt8) (p T : Nat) (w wr : World) (j q : Nat) (ok : Bool) (na : Option Addr) (nc : Nat) (ns : List ByteArray) : Prop where
  yes : ok = true → many (tkT l) j (p + 4, false) = (ns, (q, false)) ∧ q ≤ l.length
  no : ok = false → ¬ Fine l p
  len : ns.length ≤ j
  at8 : q ≤ 200000
  own : Txts wr w.heap.size (.slice na ns.length nc) ns
  fb : RB wr (w.heap.size + 1) (.int .u8 (T : Int)) (.int .u8 4) (.int .i64 0) (.string ByteArray.empty) (.slice none 0 0) (.slice na ns.length nc)
  rb : ∃ c0 c1 c2 c3 c4 c5, RB wr w.heap.size c0 c1 c2 c3 c4 c5
  bel : Below w.heap.size w wr

theorem manyT_next {l : List UInt8} {p N j q : Nat} {ns : List ByteArray} (hq : q ≤ l.length) (hM : many (tkT l) j (p + 4, false) = (ns, (q, false))) (hj : j < N) :
    ((!(tkT l (q, false)).2.2) = true → many (tkT l) (j + 1) (p + 4, false) = (ns ++ [(tkT l (q, false)).1], (endOf (tkT l (q, false)).2, false)) ∧ endOf (tkT l (q, false)).2 ≤ l.length) ∧ ((!(tkT l (q, false)).2.2) = false → (many (tkT l) N (p + 4, false)).2.2 = true) := by
  have hgo := many_go (one := tkT l) (k := j) (s := (p + 4, false)) (by rw [hM])
  rw [hM] at hgo
  dsimp only at hgo
  constructor
  · intro h
    have h' : (tkT l (q, false)).2.2 = false := by simpa using h
    have hs := (tkT_sane l (q, false) hq).1
    rw [endOf_yes h']
    refine ⟨?_, hs⟩
    refine hgo.trans ?_
    congr 1
    exact Prod.ext rfl h'
  · intro h
    have h' : (tkT l (q, false)).2.2 = true := by simpa using h
    have hst : (many (tkT l) (j + 1) (p + 4, false)).2.2 = true := by
      rw [hgo]; exact h'
    have := many_stop hst (N - (j + 1))
    rw [show j + 1 + (N - (j + 1)) = N by omega] at this
    rw [this]; exact hst

theorem OneT.out {l : List UInt8} {p T V : Nat} {w wr : World} {q : Nat} {ok : Bool} {na : Option Addr} {nc : Nat} {ns : List ByteArray} (h : OneT l p T w wr V q ok na nc ns) (hT2 : T < 256)
    (hfin : ∀ (ns : List ByteArray) (q : Nat), many (tkT l) V (p + 4, false) = (ns, (q, false)) → tkOne l (p, false) = (⟨UInt8.ofNat T, UInt8.ofNat 4, 0, ByteArray.empty, [], ns⟩, (q, false)))
    {e : Ending} (he : e = .returned (.tuple #[.agg #[.int .u8 (T : Int), .int .u8 4, .int .i64 0, .string ByteArray.empty, .slice none 0 0, .slice na ns.length nc], .int .i64 (q : Int), .bool ok])) :
    OnePost l p w (sixSet wr w.heap.size (.int .u8 (T : Int)) (.int .u8 4) (.int .i64 0) (.string ByteArray.empty) (.slice none 0 0) (.slice na ns.length nc)) e := by
  obtain ⟨c0, c1, c2, c3, c4, c5, hrb⟩ := h.rb
  have hk := six_kp wr w.heap.size (.int .u8 (T : Int)) (.int .u8 4) (.int .i64 0) (.string ByteArray.empty) (.slice none 0 0) (.slice na ns.length nc)
  have hown : Txts (sixSet wr w.heap.size (.int .u8 (T : Int)) (.int .u8 4) (.int .i64 0) (.string ByteArray.empty) (.slice none 0 0) (.slice na ns.length nc)) w.heap.size (.slice na ns.length nc) ns := owns_kp h.own hk (fun k hk' e' => owns_block_ne h.own hrb (by decide) (by rw [hk', e']))
  refine OnePost.yes ⟨⟨UInt8.ofNat T, UInt8.ofNat 4, 0, ByteArray.empty, [], ns⟩, none, 0, na, nc⟩ q ok (by rw [val_eq _ _ hT2 (by omega)]; exact he) (six_below h.bel (Nat.le_refl _) _ _ _ _ _ _) ?_ (fun e => ?_)
  · cases ok with
    | true => 
      have hE := hfin ns q (h.yes rfl).1
      exact ⟨fun _ => ⟨by rw [hE], by rw [hE]; simp⟩, fun _ => rfl⟩
    | false => exact ⟨fun e => absurd e (by simp), fun f => absurd f (h.no rfl)⟩
  · have hE := hfin ns q (h.yes e).1
    rw [hE]
    exact ⟨rfl, rfl, ⟨Nums.nil _ _, hown⟩⟩

theorem OneT.out2 {l : List UInt8} {p T V : Nat} {w wr : World} {q : Nat} {na : Option Addr} {nc : Nat} {ns : List ByteArray} (h : OneT l p T w wr V q false na nc ns) (hT2 : T < 256)
    {e : Ending} (he : e = .returned (.tuple #[.agg #[.int .u8 (T : Int), .int .u8 4, .int .i64 0, .string ByteArray.empty, .slice none 0 0, .slice na ns.length nc], .int .i64 (q : Int), .bool false])) :
    OnePost l p w (sixSet wr w.heap.size (.int .u8 (T : Int)) (.int .u8 4) (.int .i64 0) (.string ByteArray.empty) (.slice none 0 0) (.slice na ns.length nc)) e := by
  refine OnePost.yes ⟨⟨UInt8.ofNat T, UInt8.ofNat 4, 0, ByteArray.empty, [], ns⟩, none, 0, na, nc⟩ q false (by rw [val_eq _ _ hT2 (by omega)]; exact he) (six_below h.bel (Nat.le_refl _) _ _ _ _ _ _) ⟨fun e => absurd e (by simp), fun f => absurd f (h.no rfl)⟩ (fun e => absurd e (by simp))

theorem OneT.mid {l : List UInt8} {p T j q : Nat} {w wr w1 w2 : World} {ok : Bool} {na : Option Addr} {nc : Nat} {ns : List ByteArray} (h : OneT l p T w wr j q ok na nc ns) (hb : Below wr.heap.size wr w1) (ho : Txts w1 w.heap.size (.slice na ns.length nc) ns) (hg : w1.grownBy w2 (Value.slice na ns.length nc).ownBlock) :
    RB w2 (w.heap.size + 1) (.int .u8 (T : Int)) (.int .u8 4) (.int .i64 0) (.string ByteArray.empty) (.slice none 0 0) (.slice na ns.length nc) ∧ (∃ c0 c1 c2 c3 c4 c5, RB w2 w.heap.size c0 c1 c2 c3 c4 c5) ∧ Below w.heap.size w w2 := by
  obtain ⟨c0, c1, c2, c3, c4, c5, hrb⟩ := h.rb
  have f1 := h.fb.below hb
  have r1 := hrb.below hb
  have hk := Kp.grown hg
  refine ⟨f1.kp hk (fun e => owns_block_ne ho f1 (by decide) e), ⟨c0, c1, c2, c3, c4, c5, r1.kp hk (fun e => owns_block_ne ho r1 (by decide) e)⟩, (bnext h.bel hb).trans (hk.below (fun k e => (World.ownsRow.lt ho k e).1) (bnext h.bel hb).size)⟩

theorem OneT.step {l : List UInt8} {p T j q' V : Nat} {w w2 : World} {b : Bool} {na na' : Option Addr} {nc nc' : Nat} {ns : List ByteArray} {x : ByteArray} (hl : ns.length ≤ j) (fb : RB w2 (w.heap.size + 1) (.int .u8 (T : Int)) (.int .u8 4) (.int .i64 0) (.string ByteArray.empty) (.slice none 0 0) (.slice na ns.length nc)) (rb : ∃ c0 c1 c2 c3 c4 c5, RB w2 w.heap.size c0 c1 c2 c3 c4 c5) (bel : Below w.heap.size w w2)
    (ho : Txts w2 w.heap.size (.slice na' (ns ++ [x]).length nc') (ns ++ [x])) (hq : q' ≤ 200000)
    (h1 : (!b) = true → many (tkT l) (j + 1) (p + 4, false) = (ns ++ [x], (q', false)) ∧ q' ≤ l.length) (h2 : (!b) = false → (many (tkT l) V (p + 4, false)).2.2 = true) (hbad : (many (tkT l) V (p + 4, false)).2.2 = true → ¬ Fine l p) :
    OneT l p T w (w2.setCell ⟨w.heap.size + 1, 5, none⟩ (.slice na' (ns ++ [x]).length nc')) (j + 1) q' (!b) na' nc' (ns ++ [x]) := by
  obtain ⟨c0, c1, c2, c3, c4, c5, hrb⟩ := rb
  have hk : Kp (fun k => k = w.heap.size + 1) w2 (w2.setCell ⟨w.heap.size + 1, 5, none⟩ (.slice na' (ns ++ [x]).length nc')) := Kp.setCell (S := fun k => k = w.heap.size + 1) (p := ⟨w.heap.size + 1, 5, none⟩) (Kp.refl _ _) rfl _
  exact ⟨h1, fun e => hbad (h2 e), by simp; omega, hq, owns_kp ho hk (fun k hk' e' => owns_block_ne ho fb (by decide) (by rw [hk', e'])), fb.set5 _, ⟨c0, c1, c2, c3, c4, c5, hrb.kp hk (fun e => by omega)⟩, bel.trans (hk.below (fun k e => by omega) bel.size)⟩

set_option maxRecDepth 100000 in
set_option maxHeartbeats 2000000 in
theorem refone4 (a : Option Addr) (len cap p T : Nat) (l : List UInt8) (w : World) (hl : l.length = len) (hlen : len ≤ 100000) (hp : p ≤ len) (hcap : len ≤ cap) (hat : At w a l) (hT2 : T < 256) (hT : tkN l 1 (p, false) = (T, (p + 1, false))) (hK : tkN l 1 (p + 1, false) = (4, (p + 1 + 1, false))) :
    Calls Try.prog 43 #[.slice a len cap, .int .i64 (p : Int)] w fun e w' => OnePost l p w w' e := by
  have hE := tkOne_eq l (p, false) _ _ hT.symm hK.symm
  have hc1 := refnum_tk a cap len l p 1 (w.alloc (fcells 0 0)) hl (by omega) (by omega) (by omega) (hat.below (below_lit w _))
  have hc2 := refnum_tk a cap len l (p + 1) 1 (w.alloc (fcells 0 0)) hl (by omega) (by omega) (by omega) (hat.below (below_lit w _))
  have hc3 := refnum_tk a cap len l (p + 1 + 1) 2 ((w.alloc (fcells 0 0)).alloc (fcells T 4)) hl (by omega) (by omega) (by omega) (hat.below (two_alloc _ _))
  rw [hT] at hc1
  rw [hK] at hc2
  rw [show ((p + 1 : Nat) : Int) = (p : Int) + 1 by omega] at hc2
  rw [show ((p + 1 + 1 : Nat) : Int) = (p : Int) + 2 by omega] at hc3
  dsimp only at hc1 hc2
  simp only [Nat.reduceEqDiff, reduceIte] at hE
  have hV := tkN_lt l 2 (p + 1 + 1, false)
  have hs := tkN_sound (l := l) (n := 2) (s := (p + 1 + 1, false))
  generalize tkN l 2 (p + 1 + 1, false) = R at *
  obtain ⟨V, q0, wr0⟩ := R
  dsimp only at hE hc3 hV hs
  replace hV : V < 65536 := by simpa using hV
  have hst : OneT l p T w ((w.alloc (fcells 0 0)).alloc (fcells T 4)) 0 (p + 4) (!wr0) none 0 [] := by
    refine ⟨fun e => ⟨rfl, ?_⟩, fun e => ?_, Nat.le_refl _, by omega, Txts.nil _ _, (heap_two w _ _).2, ⟨_, _, _, _, _, _, (heap_two w _ _).1⟩, two_alloc _ _⟩
    · have := (hs (by simpa using e)).1.le
      rw [be_length] at this; omega
    · rintro ⟨h1, _⟩
      rw [hE] at h1
      have hwr : wr0 = true := by simpa using e
      subst hwr
      have : ∀ k, (many (tkT l) k (q0, true)).2.2 = true := fun k => by
        have := many_stop (one := tkT l) (k := 0) (s := (q0, true)) rfl k
        rw [Nat.zero_add] at this; rw [this]; rfl
      rw [this V] at h1
      exact absurd h1 (by simp)
  have hbad : wr0 = false → (many (tkT l) V (p + 4, false)).2.2 = true → ¬ Fine l p := by
    rintro rfl h2 ⟨h1, _⟩
    obtain rfl : q0 = p + 4 := (hs rfl).2
    rw [hE, h2] at h1
    exact absurd h1 (by simp)
  have hfin : wr0 = false → ∀ (ns : List ByteArray) (q : Nat), many (tkT l) V (p + 4, false) = (ns, (q, false)) → tkOne l (p, false) = (⟨UInt8.ofNat T, UInt8.ofNat 4, 0, ByteArray.empty, [], ns⟩, (q, false)) := by
    rintro rfl ns q hM
    obtain rfl : q0 = p + 4 := (hs rfl).2
    rw [hE, hM]
  replace hbad := hid hbad
  replace hfin := hid hfin
  clear hT hK hs hE
  go_enter Try.func43, Try.ntmps43
  go_wp2_with fail
  refine hc1.mono ?_
  rintro e w1 ⟨rfl, rfl⟩
  go_wp2_with fail
  refine hc2.mono ?_
  rintro e w1 ⟨rfl, rfl⟩
  go_wp2_with fail
  refine hc3.mono ?_
  rintro e w1 ⟨rfl, rfl⟩
  go_wp2_with fail
  go_loopw [1, 10, 18] (fun u o i wr => ∃ (j q : Nat) (ok : Bool) (na : Option Addr) (nc : Nat) (ns : List ByteArray), j ≤ V ∧ i = .int .i64 j ∧ u = .int .i64 q ∧ o = .bool ok ∧ OneT l p T w wr j q ok na nc ns ∧ (ok = true → wr0 = false)) (fun _ _ i _ => V - (intOf i).toNat)
  case atStart => exact ⟨0, p + 4, !wr0, none, 0, [], Nat.zero_le _, rfl, by go_num, rfl, hst, by simp⟩
  case round =>
    obtain ⟨j, q, ok, na, nc, ns, hj, rfl, rfl, rfl, hO, hwr⟩ := hrel
    clear hc1 hc2 hc3 hst
    obtain ⟨x0, x1, x2, x3, x4, x5⟩ := hO.fb.six
    obtain ⟨d0, d1, d2, d3, d4, d5, hrb⟩ := hO.rb
    have hlt0 : w.heap.size + 1 < wr.heap.size := World.block_lt_of_cell? wr _ x0
    cases ok with
    | false =>
      obtain ⟨r0, r1, r2, r3, r4, r5⟩ := hrb.six
      have s0 := hrb.free 0
      have s1 := hrb.free 1
      have s2 := hrb.free 2
      have s3 := hrb.free 3
      have s4 := hrb.free 4
      have s5 := hrb.free 5
      have hO' : OneT l p T w wr V q false na nc ns := ⟨fun e => absurd e (by simp), hO.no, by have := hO.len; omega, hO.at8, hO.own, hO.fb, hO.rb, hO.bel⟩
      have hR := hrb.all (.int .u8 (T : Int)) (.int .u8 4) (.int .i64 0) (.string ByteArray.empty) (.slice none 0 0) (.slice na ns.length nc)
      have hqb := hO.at8
      replace hO' := hid hO'
      clear hO
      go_wp2
      (try simp only [Exit.inBlock, Exit.then]); refine bodyPost_ret (results_field3 rfl _ _ w.heap.size _ _ _ _ _ _ rfl hR) rfl ?_
      exact hO'.out.out2 hT2 rfl
    | true =>
      have hw0 := hid (hwr rfl)
      obtain ⟨hM, hq⟩ := hO.yes rfl
      have hqb := hO.at8
      have hlen2 := hO.len
      by_cases hlt : j < V
      · have hnx := manyT_next hq (N := V) hM hlt
        have hcall := reftext_tk a cap len l q _ hl (by omega) hcap (hat.below hO.bel)
        have hDl : True := trivial
        have hend : endOf (tkT l (q, false)).2 ≤ 200000 := by have := (tkT_sane l (q, false) hq).1; unfold endOf; split <;> omega
        generalize hD : tkT l (q, false) = D at *
        clear hD
        replace hnx := hid hnx
        replace hM := hid hM
        have hO1 := hid hO
        clear hwr
        go_wp2_with fail
        refine hcall.mono ?_
        rintro e w1 ⟨rfl, rfl⟩
        have hbl := below_lit w1 (.cells #[.string D.1] 9)
        have ho4 : Txts _ w.heap.size _ _ := owns_below hO.own hbl
        have hat4 : TAt _ (some ⟨w1.heap.size, 0, none⟩) [D.1] := cat_lit w1 9 (tvals [D.1]) _ rfl
        have hz4 := (bnext hO.bel hbl).size
        clear hO
        go_wp2_with (at_builtin; refine wpList_txts _ rfl (.tmp 130) (.tmp 132) rfl w.heap.size _ ns [D.1] rfl ho4 (some ⟨w1.heap.size, 0, none⟩) 1 1 rfl rfl hat4 (by omega) hz4 ?_; intro v5 w5 ho5 hg5 _; obtain ⟨fb5, rb5, bel5⟩ := hO1.out.mid hbl ho4 hg5; obtain ⟨a5, c5, rfl, _⟩ := owns_form ho5; have y1 := fb5.six.c5; have y2 := fb5.free 5)
        have hst := OneT.step (V := V) (b := D.2.2) hlen2 fb5 rb5 bel5 ho5 (q' := endOf D.2) hend hnx.out.1 hnx.out.2 (hbad.out hw0.out)
        go_wp2
        go_roundw
        case rel => exact ⟨j + 1, endOf D.2, !D.2.2, a5, c5, ns ++ [D.1], by omega, by go_num, rfl, rfl, by rw [List.length_append] at hst; exact hst, fun _ => hw0.out⟩
        case measure => simp [intOf]; omega
      · obtain rfl : j = V := by omega
        obtain ⟨r0, r1, r2, r3, r4, r5⟩ := hrb.six
        have s0 := hrb.free 0
        have s1 := hrb.free 1
        have s2 := hrb.free 2
        have s3 := hrb.free 3
        have s4 := hrb.free 4
        have s5 := hrb.free 5
        have hR := hrb.all (.int .u8 (T : Int)) (.int .u8 4) (.int .i64 0) (.string ByteArray.empty) (.slice none 0 0) (.slice na ns.length nc)
        replace hO := hid hO
        replace hM := hid hM
        clear hwr
        go_wp2
        (try simp only [Exit.inBlock, Exit.then]); refine bodyPost_ret (results_field3 rfl _ _ w.heap.size _ _ _ _ _ _ rfl hR) rfl ?_
        exact hO.out.out hT2 (hfin.out hw0.out) rfl

end Go.Proofs.Ytkkdiciadkcmmaa
