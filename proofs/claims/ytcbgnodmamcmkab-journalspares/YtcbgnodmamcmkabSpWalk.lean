/- The law JournalSpares, walked up to its last region. -/
import Derived.Test.YtcbgnodmamcmkabSpP
import Derived.Test.YtcbgnodmamcmkabAwake
import Derived.Test.YtcbgnodmamcmkabApartWalk
import Derived.Deep.DeepCutAuto
import Derived.Test.YtcbgnodmamcmkabDraw2
namespace Go.Proofs.Ytcbgnodmamcmkab
open Go.RowKit

theorem row_own2 {w : World} {base g : Nat} {l : List UInt8} (h : Row w g l) (hb : base ≤ g) (hl : l.length ≤ 1000000) : Own w base (.slice (some ⟨g, 0, none⟩) l.length l.length) l :=
  ⟨by simp, .inr ⟨g, l.length, _, rfl, hb, h, Nat.le_refl _, by unfold maxLen; omega, by simp, by simp [List.take_of_length_le]⟩⟩
theorem Row.kp {S : Nat → Prop} {w w' : World} {g : Nat} {l : List UInt8} (h : Row w g l) (hk : Kp S w w') (hn : ¬ S g) : Row w' g l := by
  unfold Row at *
  rw [hk.block g (Array.getElem?_eq_some_iff.1 h).1 hn]
  exact h

/-- What the first operations of the last region leave. -/
def pr12 (base nb gx gy lb lo mb mo c2 c9 : Nat) (lv mv ov : Value) (k : Nat) (v : Value) (W : World) : Prop :=
  if k = 11 then ∃ g, v = .slice (some ⟨g, 0, none⟩) 5 5 ∧ base ≤ g ∧ W.heap[g]? = some (.cells #[.slice (some ⟨gx, 0, none⟩) (17 + nb) (17 + nb), .slice (some ⟨gy, 0, none⟩) (17 + nb) (17 + nb), lv, mv, ov] 22 (0, 0))
  else v = ([.slice (some ⟨gx, 0, none⟩) (17 + nb) (17 + nb), .slice (some ⟨gy, 0, none⟩) (17 + nb) (17 + nb), .slice (some ⟨lb, lo, none⟩) 1 c2, .pointer (some ⟨lb, lo, none⟩), .pointer (some ⟨lb, lo + 2, none⟩), lv, .slice (some ⟨mb, mo, none⟩) 1 c9, .pointer (some ⟨mb, mo, none⟩), .pointer (some ⟨mb, mo + 2, none⟩), mv, ov] : List Value).getD k undef
theorem pr12_on (base nb gx gy lb lo mb mo c2 c9 : Nat) (lv mv ov : Value) : ∀ i v w w', pr12 base nb gx gy lb lo mb mo c2 c9 lv mv ov i v w → Below w.heap.size w w' → pr12 base nb gx gy lb lo mb mo c2 c9 lv mv ov i v w' := by
  intro i v w w' h hb
  unfold pr12 at *
  split
  · rename_i e
    rw [if_pos e] at h
    obtain ⟨g, h1, h2, h3⟩ := h
    exact ⟨g, h1, h2, by rw [hb.block g (Array.getElem?_eq_some_iff.1 h3).1]; exact h3⟩
  · rename_i e
    rw [if_neg e] at h
    exact h

/-- ApartBytes of five slices whose blocks lie in spans apart from one another. -/
theorem apart_five (base g : Nat) (V : Nat → Value) (A : Nat → Option Addr) (n c : Nat → Nat) (L : Nat → List UInt8) (lo hi : Nat → Nat) (W : World) (hV : ∀ j, V j = .slice (A j) (n j) (c j)) (hn : ∀ j, j < 5 → n j ≤ 1000000) (hb : base ≤ W.heap.size)
    (hg : W.heap[g]? = some (.cells #[V 0, V 1, V 2, V 3, V 4] 22 (0, 0))) (ho : ∀ j, j < 5 → Own W base (V j) (L j)) (hl : ∀ j, j < 5 → (L j).length = n j)
    (hin : ∀ j, j < 5 → ∀ b, (V j).ownBlock = some b → lo j ≤ b ∧ b < hi j) (hap : ∀ i j, i < 5 → j < 5 → i ≠ j → hi i ≤ lo j ∨ hi j ≤ lo i) (hgo : ∀ j, j < 5 → hi j ≤ g) :
    Calls Try.prog 12 #[.slice (some ⟨g, 0, none⟩) 5 5] W fun e w' => e = .returned (.bool true) ∧ Kp (fun b => ∃ j, j < 5 ∧ (V j).ownBlock = some b) W w' := by
  refine apart_any g 5 5 base A n c V L W hV (by omega) hn hb ?_ (Array.getElem?_eq_some_iff.1 hg).1 ho hl ?_ ?_
  · intro k hk
    rw [cell_of_row W g k _ 22 (0, 0) hg]
    obtain rfl | rfl | rfl | rfl | rfl : k = 0 ∨ k = 1 ∨ k = 2 ∨ k = 3 ∨ k = 4 := by omega
    all_goals rfl
  · intro i j h1 h2 h3 b e e2
    have k1 := hin i h1 b e
    have k2 := hin j h2 b e2
    rcases hap i j h1 h2 h3 with h | h <;> omega
  · intro j hj e
    have k1 := hin j hj g e
    have := hgo j hj
    omega

set_option maxRecDepth 100000 in
set_option maxHeartbeats 4000000 in
theorem spares_any (a : Option Addr) (len cap : Nat) (l : List UInt8) (w : World) (hl : l.length = len) (hlen : len ≤ 140737488355328) (hcap : len ≤ cap) (hat : At w a l) :
    Calls Try.prog 3 #[.slice a len cap] w fun e w' => e = .returned (.bool true) ∧ Below w.heap.size w w' := by
  obtain ⟨nb, hnb⟩ : ∃ nb, nb = min len 3000 := ⟨_, rfl⟩
  obtain ⟨body, hbody⟩ : ∃ body, body = l.take nb := ⟨_, rfl⟩
  have hbl : body.length = nb := by rw [hbody, List.length_take]; omega
  have hn3 : nb ≤ 3000 := by omega
  have hb := hat.take nb
  rw [← hbody] at hb
  have hE : (entB 1 1 body).length = 17 + nb := by rw [entB_len, hbl]
  have hb3 : body.length ≤ 3000 := by omega
  clear hbody hat
  replace hb := hid hb
  replace hbl := hid hbl
  replace hE := hid hE
  replace hb3 := hid hb3
  replace hl := hid hl
  go_enter Try.func3, Try.ntmps3
  go_upto_region 1 with fail
  go_cut [0] (fun s0 wx => s0 = .slice a nb cap ∧ wx = w)
  case first =>
    by_cases h3 : 3000 < len
    · have e : nb = 3000 := by omega
      subst e
      clear hnb
      go_wp2_with fail
      all_goals
        go_meet
        first | exact ⟨rfl, rfl⟩ | (exfalso; omega)
    · have e : nb = len := by omega
      subst e
      clear hnb
      go_wp2_with fail
      all_goals
        go_meet
        first | exact ⟨rfl, rfl⟩ | (exfalso; omega)
  case rest =>
    obtain ⟨rfl, rfl⟩ := hcut
    clear hnb hlen hcap
    go_wp2_with fail
    refine (new_any wc).mono ?_
    rintro e w1 ⟨p, x1, rfl, h1, ht1, hr1, hb1⟩
    have s1 : Sole wc.heap.size w1 p x1 Dsk.new := ⟨h1, ht1, fun k e => absurd e (hr1 k), Dsk.new_inv⟩
    clear h1 ht1 hr1
    obtain ⟨n0, n1, n2⟩ := op_none (d := Dsk.new) rfl rfl
    have ho1 := open_empty_no wc.heap.size p x1 Dsk.new w1 0 2 0 0 [] s1 rfl n0.symm n1.symm n2.symm rfl rfl ps_new (by omega)
    clear n0 n1 n2
    go_wp2_with fail
    refine ho1.mono ?_
    rintro e w2 ⟨gj, sa, sc, v, x2, rfl, o2⟩
    have j2 : JIs wc.heap.size w2 gj p x2 J0 := o2.jr
    have b2 : Below wc.heap.size wc w2 := hb1.trans (o2.kp.below s1.turn hb1.size)
    have zj : wc.heap.size ≤ gj := Nat.le_trans hb1.size o2.fresh
    have hgj2 := j2.blk.lt
    have hT2 := hid j2.disk.is.1.turn_lt
    clear o2 ho1 s1 hb1
    have hb2 := hid (hb.out.below b2)
    have kC := copy_any a cap nb body w2 hbl.out (by omega) hb2.out
    go_wp2_with fail
    refine kC.mono ?_
    rintro e w3 ⟨ov, rfl, O3, b3⟩
    obtain ⟨oa, oc, hov, hoc, _⟩ := O3.form
    rw [hbl.out] at hov hoc
    subst hov
    have B3 := bnext b2 b3
    have j3 := j2.below b3
    have kA := append_j wc.heap.size gj p x2 J0 1 oa nb oc body w3 j3 B3.size few.1 hbl.out O3.at
    rw [sp_apE hb3.out, sp_apN hb3.out, sp_ap hb3.out] at kA
    clear kC
    go_wp2_with fail
    refine kA.mono ?_
    rintro e w4 ⟨rfl, x4, j4, hgr4, hk4⟩
    have hob := hid (fun k hk => (Own.lt O3 k hk))
    have O4 := hid (Own.kp O3 hk4 (fun k hk hS => by
      have h1 := hob.out k hk
      rcases hS with h2 | h2
      · have := hT2.out k h2; omega
      · omega))
    have B4 : Below wc.heap.size wc w4 := B3.trans (hk4.below (fun k e => by rcases e with e | e; exact j3.disk.turn k e; omega) B3.size)
    have hT4 := hid j4.disk.is.1.turn_lt
    have hT42 := hid (fun k (h : Turn p x4 k) => hgr4.1 k h)
    have kR := fun w' (h : Below w4.heap.size w4 w') => recordbytes_ok 1 1 oa nb oc body w' (by omega) (by omega) hbl.out (by omega) ((O4.out.below h).at)
    have hk1 : ((1 : UInt8).toNat : Int) = 1 := rfl
    rw [hk1] at kR
    have z34 := hk4.size
    clear kA O3 hk4 j3
    go_wp2_with fail
    refine (kR _ (Below.refl _ _)).mono ?_
    rintro e w5 ⟨gx, rfl, hgx, rx, b5⟩
    replace rx := hid rx
    go_wp2_with fail
    refine (kR _ b5).mono ?_
    rintro e w6 ⟨gy, rfl, hgy, ry, b6⟩
    replace ry := hid ry
    have b46 := bnext b5 b6
    have rx6 := hid (rx.out.below b6)
    have O6 := hid (O4.out.below b46)
    have s6 := j4.disk.below b46
    have B6 := bnext B4 b46
    obtain ⟨c0, c1, c2, cd⟩ := sp_cur hb3.out
    have hps : opPs (Dsk.new.appD 0 (entB 1 1 body)) = [0] := by unfold opPs; rw [c0]; exact sp_poss hb3.out _ (by rw [hE.out]; omega)
    have hH : Holds (entB 1 1 body) 0 1 1 body := sp_holds
    have hnum : numAt (entB 1 1 body) 0 = 1 := hH.num (by omega)
    have hsz : sizeAt (entB 1 1 body) 0 - 9 = nb := by rw [hH.size (by have := hb3.out; omega), hbl.out]; omega
    have hbd : bodyAt (entB 1 1 body) 0 = body := hH.body_at (by have := hb3.out; omega)
    have hstop : endAt (entB 1 1 body) 0 = 17 + nb := by rw [hH.stop (by have := hb3.out; omega), hbl.out, Nat.zero_add]
    obtain ⟨n0, n1, n2⟩ := op_none c1 c2
    have ho2 := open_good_no wc.heap.size p x4 (Dsk.new.appD 0 (entB 1 1 body)) w6 0 2 0 (17 + nb) 1 (17 + nb) 1 1 [] s6 cd n0.symm n1.symm n2.symm rfl (by rw [c0]; exact hE.out) (by rw [hps]; rfl) (by rw [hps, c0]; show 17 + nb = endAt _ 0; rw [hstop]) (by omega) (by omega) (fun h => by simp only [hps, List.getElem_cons_zero]; rw [c0, hnum]) (fun h => by simp only [hps]; show 1 = numAt _ 0; rw [c0, hnum]) (by omega) (by omega) (by omega)
    rw [c0] at ho2
    clear n0 n1 n2 kR
    go_wp2_with fail
    refine ho2.mono ?_
    rintro e w7 ⟨g2, sb, sc2, v2, x8, rfl, o8⟩
    obtain ⟨xs, ax, hxp, ⟨a2', c2', hv, _, hcat, _⟩, hok, _⟩ := o8.recs
    rw [hps] at hxp
    obtain ⟨y0, ys, rfl, e0, hxp⟩ := List.map_eq_cons_iff.1 hxp
    have hz := List.map_eq_nil_iff.1 hxp
    subst hz
    have hsk : skipOf (entB 1 1 body) 0 [y0] = 0 := by
      unfold skipOf
      rw [if_pos (by rw [e0, hnum]; omega)]
    rw [hsk] at hv hcat
    subst hv
    rw [List.drop_zero] at hcat
    have hk8 := o8.kp
    have rx7 := hid (rx6.out.kp hk8 (fun h => by have := hT4.out _ h; omega))
    have hz5 := b5.size
    have ry7 := hid (ry.out.kp hk8 (fun h => by have := hT4.out _ h; omega))
    have O7 := hid (Own.kp O6.out hk8 (fun k hk hS => by
      have h1 := hob.out k hk
      rcases hT42.out k hS with h2 | h2
      · have := hT2.out k h2; omega
      · omega))
    have B7 : Below wc.heap.size wc w7 := B6.trans (hk8.below s6.turn B6.size)
    have L7 := (hok y0 (by simp)).2
    rw [e0, hsz, hbd] at L7
    replace L7 := hid L7
    have hra7 := hid (rx_rat hok hcat)
    have lcell := hid (hcat (by simp [RX.cells]))
    have L7x := hid L7.out
    have z67 := hk8.size
    clear ho2 hok hcat o8 hk8 s6
    have kE := records_any (some ⟨gx, 0, none⟩) (17 + nb) (17 + nb) (entB 1 1 body) 0 w7 hE.out (by omega) (Nat.le_refl _) rx7.out.at
    go_wp2_with fail
    refine kE.mono ?_
    rintro e w8 ⟨zs, v9, rfl, hzp, ho9, hok9, b8⟩
    rw [sp_poss hb3.out _ (by omega)] at hzp
    obtain ⟨z0, zs, rfl, f0, hzp⟩ := List.map_eq_cons_iff.1 hzp
    have hz := List.map_eq_nil_iff.1 hzp
    subst hz
    obtain ⟨a9, c9, hv9, _⟩ := owns_form ho9
    subst hv9
    have M8 := (hok9 z0 (by simp)).2
    rw [f0, hsz, hbd] at M8
    replace M8 := hid M8
    have hra8 := hid (rx_rat hok9 (owns_cat ho9))
    have mcell := hid ((owns_cat ho9) (by simp [RX.cells]))
    replace ho9 := hid ho9
    have B8 := bnext B7 b8
    have rx8 := hid (rx7.out.below b8)
    have ry8 := hid (ry7.out.below b8)
    have O8 := hid (O7.out.below b8)
    have L8 := hid (L7.out.below b8)
    have hra78 := hid (hra7.out.below b8)
    clear kE hok9 rx7 ry7 O7 L7 hra7 rx6 O6
    have kM := samer_any a2' a9 1 1 c2' c9 [RX.rm (entB 1 1 body) y0] [RX.rm (entB 1 1 body) z0] w8 rfl rfl (by omega) hra78.out hra8.out (by simp [RX.rm, Rm.plain, e0, f0])
    go_wp2_with fail
    refine kM.mono ?_
    rintro e w9 ⟨rfl, b9⟩
    have kN := same_any (some ⟨gx, 0, none⟩) (some ⟨gy, 0, none⟩) (17 + nb) (17 + nb) (17 + nb) (17 + nb) (entB 1 1 body) (entB 1 1 body) w9 hE.out hE.out (rx8.out.below b9).at (ry8.out.below b9).at rfl
    go_wp2_with fail
    refine kN.mono ?_
    rintro e w10 ⟨rfl, e10⟩
    have e11 := e10
    subst e11
    clear e10
    obtain ⟨lb, lo, rfl, hlc⟩ := lcell.out
    obtain ⟨mb, mo, rfl, hmc⟩ := mcell.out
    have q1 := hlc 2 (by simp [RX.cells])
    have q2 := hmc 2 (by simp [RX.cells])
    simp only [RX.cells, List.flatMap_cons, List.flatMap_nil, List.append_nil, List.getElem_cons_succ, List.getElem_cons_zero, e0, f0, hsz] at q1 q2
    have hQ1 := hid (fun W (h : Below w10.heap.size w10 W) => cell_b (bnext (bnext b8 b9) h) q1)
    have hQ2 := hid (fun W (h : Below w10.heap.size w10 W) => cell_b (bnext b9 h) q2)
    have z4 := B4.size
    have z5 := b5.size
    have z6 := b6.size
    have z7 := B7.size
    have z8 := b8.size
    have z9 := b9.size
    have zx := (Array.getElem?_eq_some_iff.1 rx.out).1
    have zy := (Array.getElem?_eq_some_iff.1 ry.out).1
    have OX := row_own2 (base := wc.heap.size) (rx8.out.below b9) (by omega) (by rw [hE.out]; omega)
    have OY := row_own2 (base := wc.heap.size) (ry8.out.below b9) (by omega) (by rw [hE.out]; omega)
    rw [hE.out] at OX OY
    replace OX := hid OX
    replace OY := hid OY
    have OL := hid ((L8.out.below b9).le (base' := wc.heap.size) B6.size)
    have OM := hid ((M8.out.below b9).le (base' := wc.heap.size) B7.size)
    have OO := hid ((O8.out.below b9).le (base' := wc.heap.size) b2.size)
    have iL := hid (fun b h => (Own.lt L8.out b h).1)
    have iL2 := hid (fun b h => (Own.lt L7x.out b h).2)
    have iM := hid (fun b h => Own.lt M8.out b h)
    have B10 := bnext B8 b9
    clear lcell mcell hlc hmc q1 q2 kN kM
    go_wp2_with fail
    refine wp_region_front 12 (Rel := fun w w' => Below w.heap.size w w') (Pr := pr12 w10.heap.size nb gx gy lb lo mb mo c2' c9 (.slice y0.a nb y0.c) (.slice z0.a nb z0.c) (.slice oa nb oc)) (by kernel_rfl) (by kernel_rfl) (drew_below _) bel_tr (pr12_on _ _ _ _ _ _ _ _ _ _ _ _ _) ?_ (by kernel_rfl) ?_
    · refine ⟨?_, ?_, ?_, ?_, ?_, ?_, ?_, ?_, ?_, ?_, ?_, ?_, trivial⟩
      · exact fun a w hR hd hk K hK => yes (want_n rfl) (wp_mv _ rfl _ (get_keep (hk 11 (no_dst (by kernel_rfl))) rfl) (hK _ w rfl (Below.refl _ _)))
      · exact fun a w hR hd hk K hK => yes (want_n rfl) (wp_mv _ rfl _ (get_keep (hk 13 (no_dst (by kernel_rfl))) rfl) (hK _ w rfl (Below.refl _ _)))
      · exact fun a w hR hd hk K hK => yes (want_n rfl) (wp_mv _ rfl _ (get_keep (hk 17 (no_dst (by kernel_rfl))) rfl) (hK _ w rfl (Below.refl _ _)))
      · intro a w2 hR hd hk K hK
        have h1 := slot (hd 2 _ 100 rfl rfl rfl)
        clear hd hk hR
        go_simp
        exact hK _ _ rfl (Below.refl _ _)
      · intro a w2 hR hd hk K hK
        have h1 := slot (hd 3 _ 101 rfl rfl rfl)
        clear hd hk hR
        go_simp
        exact hK _ _ rfl (Below.refl _ _)
      · intro a w2 hR hd hk K hK
        have h1 := slot (hd 4 _ 102 rfl rfl rfl)
        have h2 := hQ1.out w2 hR
        clear hd hk hR
        go_simp
        exact hK _ _ rfl (Below.refl _ _)
      · exact fun a w hR hd hk K hK => yes (want_n rfl) (wp_mv _ rfl _ (get_keep (hk 19 (no_dst (by kernel_rfl))) rfl) (hK _ w rfl (Below.refl _ _)))
      · intro a w2 hR hd hk K hK
        have h1 := slot (hd 6 _ 104 rfl rfl rfl)
        clear hd hk hR
        go_simp
        exact hK _ _ rfl (Below.refl _ _)
      · intro a w2 hR hd hk K hK
        have h1 := slot (hd 7 _ 105 rfl rfl rfl)
        clear hd hk hR
        go_simp
        exact hK _ _ rfl (Below.refl _ _)
      · intro a w2 hR hd hk K hK
        have h1 := slot (hd 8 _ 106 rfl rfl rfl)
        have h2 := hQ2.out w2 hR
        clear hd hk hR
        go_simp
        exact hK _ _ rfl (Below.refl _ _)
      · exact fun a w hR hd hk K hK => yes (want_n rfl) (wp_mv _ rfl _ (get_keep (hk 8 (no_dst (by kernel_rfl))) rfl) (hK _ w rfl (Below.refl _ _)))
      · intro a w2 hR hd hk K hK
        have h1 := slot (hd 0 _ 98 rfl rfl rfl)
        have h2 := slot (hd 1 _ 99 rfl rfl rfl)
        have h3 := slot (hd 5 _ 103 rfl rfl rfl)
        have h4 := slot (hd 9 _ 107 rfl rfl rfl)
        have h5 := slot (hd 10 _ 108 rfl rfl rfl)
        have hg := hid (heap_alloc_new w2 (.cells #[.slice (some ⟨gx, 0, none⟩) (17 + nb) (17 + nb), .slice (some ⟨gy, 0, none⟩) (17 + nb) (17 + nb), .slice y0.a nb y0.c, .slice z0.a nb z0.c, .slice oa nb oc] 22))
        have bl := hid (below_lit w2 (.cells #[.slice (some ⟨gx, 0, none⟩) (17 + nb) (17 + nb), .slice (some ⟨gy, 0, none⟩) (17 + nb) (17 + nb), .slice y0.a nb y0.c, .slice z0.a nb z0.c, .slice oa nb oc] 22))
        have hz := hR.size
        clear hd hk hR
        go_simp
        exact hK _ _ ⟨_, rfl, hz, hg.out⟩ bl.out
    · intro a w11 hdf hsz2 hkp hval hR11
      obtain ⟨f, hf⟩ : ∃ f, f = fun d => a.tmps.getD d undef := ⟨_, rfl⟩
      obtain ⟨g, h109, hgz, hg⟩ : ∃ g, f 109 = .slice (some ⟨g, 0, none⟩) 5 5 ∧ w10.heap.size ≤ g ∧ w11.heap[g]? = some (.cells #[.slice (some ⟨gx, 0, none⟩) (17 + nb) (17 + nb), .slice (some ⟨gy, 0, none⟩) (17 + nb) (17 + nb), .slice y0.a nb y0.c, .slice z0.a nb z0.c, .slice oa nb oc] 22 (0, 0)) := by rw [hf]; exact hval 11 _ 109 rfl rfl
      have hfa := act_filled hdf hsz2 hkp
      rw [← hf] at hfa
      rw [hfa]
      clear hdf hsz2 hkp hval hfa hf
      clear a
      simp only [List.take, fillAll, List.set_cons_zero, List.set_cons_succ, h109]
      obtain ⟨A, hA⟩ : ∃ A : Nat → Option Addr, A = fun j => if j = 0 then some ⟨gx, 0, none⟩ else if j = 1 then some ⟨gy, 0, none⟩ else if j = 2 then y0.a else if j = 3 then z0.a else oa := ⟨_, rfl⟩
      obtain ⟨n, hn⟩ : ∃ n : Nat → Nat, n = fun j => if j = 0 then 17 + nb else if j = 1 then 17 + nb else nb := ⟨_, rfl⟩
      obtain ⟨c, hc⟩ : ∃ c : Nat → Nat, c = fun j => if j = 0 then 17 + nb else if j = 1 then 17 + nb else if j = 2 then y0.c else if j = 3 then z0.c else oc := ⟨_, rfl⟩
      obtain ⟨L, hL⟩ : ∃ L : Nat → List UInt8, L = fun j => if j = 0 then entB 1 1 body else if j = 1 then entB 1 1 body else body := ⟨_, rfl⟩
      have ho : ∀ j, j < 5 → Own w11 wc.heap.size (.slice (A j) (n j) (c j)) (L j) := fun j hj => by
        rw [hA, hn, hc, hL]
        obtain rfl | rfl | rfl | rfl | rfl : j = 0 ∨ j = 1 ∨ j = 2 ∨ j = 3 ∨ j = 4 := by omega
        · exact OX.out.below hR11
        · exact OY.out.below hR11
        · exact OL.out.below hR11
        · exact OM.out.below hR11
        · exact OO.out.below hR11
      have hcall := apart_five wc.heap.size g (fun j => .slice (A j) (n j) (c j)) A n c L
        (fun j => if j = 0 then w4.heap.size else if j = 1 then w5.heap.size else if j = 2 then w6.heap.size else if j = 3 then w7.heap.size else w2.heap.size)
        (fun j => if j = 0 then w5.heap.size else if j = 1 then w6.heap.size else if j = 2 then w7.heap.size else if j = 3 then w8.heap.size else w3.heap.size) w11 (fun _ => rfl)
        (fun j hj => by rw [hn]; dsimp only; split <;> (try split) <;> omega) (Nat.le_trans B10.size hR11.size) (by rw [hA, hn, hc]; exact hg) ho
        (fun j hj => by rw [hL, hn]; dsimp only; split <;> (try split) <;> first | exact hE.out | exact hbl.out)
        (fun j hj b hb => by
          rw [hA, hn, hc] at hb
          obtain rfl | rfl | rfl | rfl | rfl : j = 0 ∨ j = 1 ∨ j = 2 ∨ j = 3 ∨ j = 4 := by omega
          · have : gx = b := Option.some.inj hb
            subst this
            exact ⟨hgx, zx⟩
          · have : gy = b := Option.some.inj hb
            subst this
            exact ⟨hgy, zy⟩
          · exact ⟨iL.out b hb, iL2.out b hb⟩
          · exact iM.out b hb
          · exact hob.out b hb)
        (fun i j h1 h2 h3 => by
          have zz := b3.size
          obtain rfl | rfl | rfl | rfl | rfl : i = 0 ∨ i = 1 ∨ i = 2 ∨ i = 3 ∨ i = 4 := by omega
          all_goals
            obtain rfl | rfl | rfl | rfl | rfl : j = 0 ∨ j = 1 ∨ j = 2 ∨ j = 3 ∨ j = 4 := by omega
            all_goals simp at h3 ⊢
            all_goals omega)
        (fun j hj => by
          have zz := b3.size
          split <;> (try split) <;> (try split) <;> (try split) <;> omega)
      have hbel := hid (fun w12 (hk : Kp (fun b => ∃ j, j < 5 ∧ (Value.slice (A j) (n j) (c j)).ownBlock = some b) w11 w12) => (bnext B10 hR11).trans (hk.below (base := wc.heap.size) (fun k ⟨j, hj, e⟩ => (Own.lt (ho j hj) k e).1) (bnext B10 hR11).size))
      clear ho hg hA hn hc hL h109
      change wpAny Try.prog .any _ _ (4 + 1) _ _ _
      refine wpAny_ready (rs := [12]) (by kernel_rfl) (by simp) ?_
      refine AllReady.cons rfl (fun K hK => ?_) AllReady.nil
      refine step_call rfl 12 _ _ rfl _ Try.func12 rfl rfl #[.slice (some ⟨g, 0, none⟩) 5 5] (by simp [Act.eval]) hcall ?_
      rintro e w12 ⟨rfl, hk12⟩
      refine ⟨_, rfl, hK _ _ ?_⟩
      have B12 := hbel.out w12 hk12
      clear hK K hcall hk12 hbel
      refine wpAny_ready (rs := [13]) (by kernel_rfl) (by simp) ?_
      refine AllReady.cons rfl (fun K hK => ?_) AllReady.nil
      go_simp
      refine hK _ _ ?_
      clear hK K
      refine wpAny_ready (rs := [14]) (by kernel_rfl) (by simp) ?_
      refine AllReady.cons rfl (fun K hK => ?_) AllReady.nil
      refine yes (want_g rfl rfl rfl) (wp_callv 13 _ _ rfl _ Try.func13 rfl rfl _ args0 (awake_any w12) ?_)
      rintro e w13 ⟨rfl, b13⟩
      refine ⟨_, rfl, hK _ _ ?_⟩
      have B13 := bnext B12 b13
      clear hK K
      refine wpAny_ready (rs := [15]) (by kernel_rfl) (by simp) ?_
      refine AllReady.cons rfl (fun K hK => ?_) AllReady.nil
      go_simp
      refine hK _ _ ?_
      clear hK K
      refine wpAny_ready (rs := [16]) (by kernel_rfl) (by simp) ?_
      refine AllReady.cons rfl (fun K hK => ?_) AllReady.nil
      go_simp
      refine hK _ _ ?_
      clear hK K
      refine wpAny_done (by kernel_rfl) ?_ _
      go_wp2
      go_ret
      exact ⟨rfl, B13⟩
end Go.Proofs.Ytcbgnodmamcmkab
