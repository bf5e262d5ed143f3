/- JournalNumbers' Go text returns true. -/
import Derived.Test.YtcbgnodmamcmkaaNumO
import Derived.Test.YtcbgnodmamcmkaaOpenNil
import Derived.Test.YtcbgnodmamcmkaaAwake
import Derived.Test.YtcbgnodmamcmkaaKeptM
namespace Go.Proofs.Ytcbgnodmamcmkaa
open Go.RowKit

/-- 'make([]byte, n)': so many bytes. -/
theorem wpList_zeros (w : World) {ops : Array Oper} {rest : List Oper} {o : Oper} {a : Act} {Q : Exit → Act → World → Prop} (hg : o.guard = none) (s t : Operand) (hop : o.op = Op.makeSlice 22 s t) (N : Int) (n : Nat) (hs : a.eval s = .int .i64 N) (ht : a.eval t = .int .i64 N) (hN : N = (n : Int)) (hn : n ≤ 10000000)
    (h : ∀ w' Z, Z.length = n → Row w' w.heap.size Z → Below w.heap.size w w' → wpList Try.prog ops Q rest (a.put o.dst (.slice (some ⟨w.heap.size, 0, none⟩) n n)) w') : wpList Try.prog ops Q (o :: rest) a w := by
  obtain ⟨i0, hi, hz0, hz1, hz2⟩ := info_parts info5
  refine wpList_make_full w hg s t 22 hop w.heap.size 5 i0 _ 1 Try.underlying22 hi hz0 hz1 .i64 .i64 N N n hs ht hN hN (by rw [hz2]; omega) (by unfold maxLen; omega) (Nat.le_refl _) ?_
  intro w' ho hg'
  exact h w' _ List.length_replicate (row_made ho) ((Below.refl _ _).grown hg' (Nat.le_refl _) (fun k hk => by cases hk))

theorem Dsk.Inv.failD {d : Dsk} (h : d.Inv) (n e : Int) (hn : n ≤ 9223372036854775807) : (d.failD n e).Inv := by
  unfold Dsk.failD
  split
  · exact h
  · exact ⟨h.okay, h.now, h.short, h.arm0, h.arm1, (by show -1 ≤ n; omega), hn⟩
theorem fail_sole (base p : Nat) (x : Dx) (d d' : Dsk) (n ec e0 : Int) (w : World) (hs : Sole base w p x d) (hbase : base ≤ w.heap.size) (hn : n ≤ 9223372036854775807) (he : Dsk.failE n ec = e0) (hd : d.failD n ec = d') :
    Calls Try.prog 20 #[.pointer (some ⟨p, 0, none⟩), .int .i64 n, .int .i64 ec] w fun e w' => e = .returned (.int .i64 e0) ∧ ∃ x', Sole base w' p x' d' ∧ Grow w p x x' ∧ Kp (Turn p x) w w' := by
  subst he; subst hd
  refine (fail_any p x d n ec w hs.is).mono ?_
  rintro e w' ⟨rfl, h⟩
  exact ⟨rfl, h.sole hs (hs.inv.failD n ec hn) hbase⟩

/-- Records of the gap's bytes from four on: none. -/
theorem records_four (a : Option Addr) (w : World) (hat : At w a eG) :
    Calls Try.prog 19 #[.slice a 17 17, .int .i64 4] w fun e w' => ∃ (ra : Option Addr) (rc : Nat), e = .returned (.tuple #[.slice ra 0 rc, .int .i64 0]) ∧ Below w.heap.size w w' := by
  refine (records_any a 17 17 eG 4 w (by decide +kernel) (by decide) (by decide) hat).mono ?_
  rintro e w' ⟨xs, v, rfl, hp, ho, hok, hb⟩
  rw [show poss eG (17 + 1) 0 4 = [] from eG_four] at hp
  have hx : xs = [] := by simpa using hp
  subst hx
  obtain ⟨ra, rc, rfl, hrc⟩ := owns_form ho
  exact ⟨ra, rc, rfl, hb⟩

/-- What the failing disk answers. -/
theorem fails_four {d : Dsk} {F : Fs} {n : Nat} (hc : Clm d F n) (b : List UInt8) (h0 : F 0 = []) (hb : b.length ≤ 1048576) : (d.failD 0 4).appE 0 b = 4 := by
  unfold Dsk.failD
  rw [if_neg (by decide)]
  unfold Dsk.appE
  rw [if_neg (by decide), if_neg (by show ¬ _ < (d.cur 0).length + b.length; rw [hc.cur, h0]; simp; omega)]
  unfold Dsk.errs
  rw [if_neg (by show ¬ d.down = true; rw [hc.free.1]; decide), if_neg (by show ¬ d.arm = 0; rw [hc.free.2.1]; decide), if_pos rfl]
theorem arm_six (d : Dsk) : ({ d with arm := ((0 : Nat) : Int) } : Dsk).errs = 6 := by
  unfold Dsk.errs
  split
  · rfl
  · rw [if_pos (show (({ d with arm := ((0 : Nat) : Int) } : Dsk).arm) = 0 from rfl)]

theorem at_pre {w : World} {a : Option Addr} {l : List UInt8} (h : At w a l) (n : Nat) : At w a (l.take n) := by
  intro hl
  obtain ⟨b, o, e, hc⟩ := h (by intro e; rw [e] at hl; simp at hl)
  refine ⟨b, o, e, fun i hi => ?_⟩
  have hi' : i < l.length := by rw [List.length_take] at hi; omega
  have := hc i hi'
  simpa using this

set_option maxRecDepth 100000 in
set_option maxHeartbeats 16000000 in
theorem numbers_any (w : World) : Calls Try.prog 3 #[] w fun e w' => e = .returned (.bool true) ∧ Below w.heap.size w w' := by
  have kc := const_run
  have bz := Below.refl w.heap.size w
  go_enter Try.func3, Try.ntmps3
  have bl := below_lit w (.cells #[.int .u8 97] 5 (1, 2))
  go_wp2_with fail
  refine (recordbytes_ok 1 7 _ 1 1 [97] _ (by decide) (by decide) rfl (by decide) (at_mark w [97] _ _ rfl)).mono ?_
  rintro e w1 ⟨g1, rfl, hg1, row1, hb1⟩
  have b1 := bnext (bnext bz bl) hb1
  clear bl hb1 bz
  have bl := below_lit w1 (.cells #[.int .u8 0, .int .u8 0, .int .u8 0, .int .u8 10, .int .u8 0, .int .u8 0, .int .u8 0, .int .u8 0, .int .u8 0, .int .u8 0, .int .u8 0, .int .u8 1, .int .u8 7, .int .u8 97] 5)
  go_wp2_with fail
  refine (same_any _ _ 14 14 _ _ ((entB 1 7 [97]).take 14) [0, 0, 0, 10, 0, 0, 0, 0, 0, 0, 0, 1, 7, 97] _ (by decide +kernel) rfl ((at_pre row1.at 14).below bl) (at_mark w1 _ _ _ rfl) (by decide +kernel)).mono ?_
  rintro e w2 ⟨rfl, rfl⟩
  have b2 := bnext b1 bl
  clear bl b1 row1 hg1
  go_wp2_with fail
  refine (recordbytes_arg 0 0 none 0 0 _ (by omega)).mono ?_
  rintro e w3 ⟨rfl, hb⟩
  have b3 := bnext b2 hb
  clear b2 hb
  go_wp2_with fail
  refine (recordbytes_arg 4611686018427387905 0 none 0 0 _ (by omega)).mono ?_
  rintro e w4 ⟨rfl, hb⟩
  have b4 := bnext b3 hb
  clear b3 hb
  go_wp2_with (at_make; refine wpList_zeros _ rfl (.const (.int .i64 65537)) (.const (.int .i64 65537)) rfl 65537 65537 rfl rfl rfl (by omega) ?_; intro w5 Z5 hZ5 row5 hbg; replace hZ5 := hid hZ5)
  have b5 := bnext b4 hbg
  clear b4 hbg
  refine (recordbytes_long 1 0 _ 65537 65537 _ (by omega) (by omega) (by omega)).mono ?_
  rintro e w6 ⟨rfl, hb⟩
  have b6 := bnext b5 hb
  clear b5 hb row5 hZ5
  go_wp2_with (at_make; refine wpList_zeros _ rfl (.const (.int .i64 65536)) (.const (.int .i64 65536)) rfl 65536 65536 rfl rfl rfl (by omega) ?_; intro w7 Z7 hZ7 row7 hbg; replace hZ7 := hid hZ7)
  have b7 := bnext b6 hbg
  clear b6 hbg
  refine (recordbytes_ok 4611686018427387904 0 _ 65536 65536 Z7 _ (by omega) (by omega) hZ7.out (by omega) row7.at).mono ?_
  rintro e w8 ⟨g8, rfl, hg8, row8, hb⟩
  have b8 := bnext b7 hb
  clear b7 hb row7 hZ7 row8 hg8
  go_wp2_with fail
  refine (new_any _).mono ?_
  rintro e w9 ⟨pd, x9, rfl, h1, ht1, hr1, hb1⟩
  have sd : Sole w.heap.size w9 pd x9 Dsk.new := ⟨h1, fun k e => Nat.le_trans b8.size (ht1 k e), fun k e => absurd e (hr1 k), Dsk.new_inv⟩
  have b9 := bnext b8 hb1
  clear h1 ht1 hr1 hb1 b8
  have c0 : Clm Dsk.new (fun _ => []) 0 := ⟨⟨rfl, rfl, rfl⟩, rfl, Nat.le_refl _⟩
  go_wp2_with fail
  refine (open_a w.heap.size pd x9 Dsk.new 0 _ sd b9.size c0).mono ?_
  rintro e w10 ⟨gj, sa10, sc10, v10, x10, rfl, o⟩
  have b10 := b9.trans o.bel
  have jw := o.jw
  clear sd b9
  have sd := o.disk
  clear o
  go_wp2_with fail
  obtain ⟨a1, a2, a3⟩ := ap_state Dsk.new 0 0 2 []
  refine (append_w w.heap.size gj pd x10 Dsk.new 0 0 2 false 255 none 0 0 [] _ 0 2 _ jw sd b10.size (by decide) rfl (fun h => absurd rfl h) a1 a2 a3).mono ?_
  rintro e w11 ⟨rfl, x11, n⟩
  have b11 := b10.trans n.bel
  clear jw sd b10 a1 a2 a3
  have jw := n.jw
  have sd := n.disk
  clear n
  go_wp2_with (at_make; refine wpList_zeros _ rfl (.const (.int .i64 65537)) (.const (.int .i64 65537)) rfl 65537 65537 rfl rfl rfl (by omega) ?_; intro w12 Z12 hZ12 row12 hbg; replace hZ12 := hid hZ12)
  obtain ⟨a1, a2, a3⟩ := ap_long Dsk.new 0 0 2 1 Z12 (by decide) (by decide) (by rw [hZ12.out]; omega)
  refine (append_w w.heap.size gj pd x11 Dsk.new 0 0 2 false 1 _ 65537 65537 Z12 _ 0 3 _ (jw.below hbg) (sd.below hbg) (bnext b11 hbg).size (by decide) hZ12.out row12.at a1 a2 a3).mono ?_
  rintro e w13 ⟨rfl, x13, n⟩
  have b13 := (bnext b11 hbg).trans n.bel
  clear jw sd b11 a1 a2 a3 hbg row12 hZ12
  have jw := n.jw
  have sd := n.disk
  clear n
  have bl := below_lit w13 (.cells #[.int .u8 97] 5 (1, 2))
  go_wp2_with fail
  obtain ⟨a1, a2, d1, a3, c1⟩ := c0.append (l := 0) (s := 0) (f := 2) 7 [97] (by decide) (by decide) (by decide) (by decide)
  refine (append_w w.heap.size gj pd x13 Dsk.new 0 0 2 false 7 _ 1 1 [97] _ 1 0 _ (jw.below bl) (sd.below bl) (bnext b13 bl).size (by decide) rfl (at_mark w13 [97] _ _ rfl) a1 (by rw [a2]; rfl) a3).mono ?_
  rintro e w14 ⟨rfl, x14, n⟩
  have b14 := (bnext b13 bl).trans n.bel
  clear jw sd b13 a1 a2 a3 bl
  have jw := n.jw
  have sd := n.disk
  clear n
  go_wp2_with (at_make; refine wpList_zeros _ rfl (.const (.int .i64 1048560)) (.const (.int .i64 1048560)) rfl 1048560 1048560 rfl rfl rfl (by omega) ?_; intro w15 Z15 hZ15 row15 hbg; replace hZ15 := hid hZ15)
  obtain ⟨a1, a3⟩ := sn_long d1 1 0 2 Z15 (by rw [hZ15.out]; omega)
  refine (snapshot_w w.heap.size gj pd x14 d1 1 0 2 false _ 1048560 1048560 Z15 _ 3 _ (jw.below hbg) (sd.below hbg) (bnext b14 hbg).size (by have := c1.few; omega) hZ15.out row15.at a1 a3).mono ?_
  rintro e w16 ⟨rfl, x16, n⟩
  have b16 := (bnext b14 hbg).trans n.bel
  clear jw sd b14 a1 a3 hbg row15 hZ15
  have jw := n.jw
  have sd := n.disk
  clear n
  have bl := below_lit w16 (.cells #[.int .u8 115] 5 (1, 2))
  go_wp2_with fail
  obtain ⟨a1, d2, a3, c2⟩ := c1.snap (l := 1) (s := 0) (f := 2) [115] (by decide) 1 rfl
  refine (snapshot_w w.heap.size gj pd x16 d1 1 0 2 false _ 1 1 [115] _ 0 _ (jw.below bl) (sd.below bl) (bnext b16 bl).size (by have := c1.few; omega) rfl (at_mark w16 [115] _ _ rfl) a1 a3).mono ?_
  rintro e w17 ⟨rfl, x17, n⟩
  have b17 := (bnext b16 bl).trans n.bel
  clear jw sd b16 a1 a3 bl c0 c1
  have jw := n.jw
  have sd := n.disk
  clear n
  have bl := below_lit w17 (.cells #[.int .u8 100] 5 (1, 2))
  go_wp2_with fail
  obtain ⟨a1, a2, d3, a3, c3⟩ := c2.append (l := 1) (s := 1) (f := 1) 8 [100] (by decide) (by decide) (by decide) (by decide)
  refine (append_w w.heap.size gj pd x17 d2 1 1 1 false 8 _ 1 1 [100] _ 2 0 _ (jw.below bl) (sd.below bl) (bnext b17 bl).size (by have := c2.few; omega) rfl (at_mark w17 [100] _ _ rfl) a1 (by rw [a2]; rfl) a3).mono ?_
  rintro e w18 ⟨rfl, x18, n⟩
  have b18 := (bnext b17 bl).trans n.bel
  clear jw sd b17 a1 a2 a3 bl c2
  have jw := n.jw
  have sd := n.disk
  clear n
  go_wp2_with fail
  obtain ⟨a1, d4, a3, c4⟩ := c3.sync (l := 2) (s := 1) (f := 1)
  refine (sync_w w.heap.size gj pd x18 d3 2 1 1 false _ 0 _ jw sd b18.size (by have := c3.few; omega) a1 a3).mono ?_
  rintro e w19 ⟨rfl, x19, n⟩
  have b19 := b18.trans n.bel
  clear jw sd b18 a1 a3 c3
  have jw := n.jw
  have sd := n.disk
  clear n
  go_wp2_with fail
  refine (open_b w.heap.size pd x19 d4 _ 0 _ sd b19.size c4 rfl rfl rfl).mono ?_
  rintro e w20 ⟨gx, sa20, sc20, rs, ra, rc, x20, rfl, hrs, hra, hpl, o⟩
  have b20 := b19.trans o.bel
  replace jw := jw.turned o.grow o.kp
  have jx := o.jw
  clear sd b19
  have sd := o.disk
  have cv := conv_run w20 sa20 [115] 1 sc20 rfl o.body
  rw [show (([115] : List UInt8).toArray) = #[115] from rfl] at cv
  go_wp2_with fail
  refine (last_blk gx ⟨pd, 0, none⟩ 2 2 1 false _ jx.blk).mono ?_
  rintro e w20 ⟨rfl, rfl⟩
  have bl1 := below_lit w20 (.cells #[.int .u8 100] 5 (1, 2))
  have bl2 := below_lit (w20.alloc (.cells #[.int .u8 100] 5 (1, 2))) (.cells #[.int .i64 2, .int .u8 8, .slice (some ⟨w20.heap.size, 0, none⟩) 1 1] 27)
  have al := (at_mark w20 [100] _ (1, 2) rfl).below bl2
  have rl : RAt ((w20.alloc (.cells #[.int .u8 100] 5 (1, 2))).alloc (.cells #[.int .i64 2, .int .u8 8, .slice (some ⟨w20.heap.size, 0, none⟩) 1 1] 27)) (some ⟨w20.heap.size + 1, 0, none⟩) [⟨2, 8, [100], some ⟨w20.heap.size, 0, none⟩, 1⟩] :=
    ⟨cat_here _ _ _ _ _ rfl _ (by simp), fun i hi => by cases hi with | head => exact al | tail _ h => cases h⟩
  have bb := bnext (bnext b20 bl1) bl2
  replace hra := (hra.below bl1).below bl2
  replace rl := hid rl
  go_wp2_with fail
  refine (samer_any ra (some ⟨w20.heap.size + 1, 0, none⟩) 1 1 rc 1 rs _ _ hrs rfl (by decide) hra rl.out (by rw [hpl]; rfl)).mono ?_
  rintro e w21 ⟨rfl, hb⟩
  have b21 := bnext bb hb
  replace jw := ((jw.below bl1).below bl2).below hb
  replace sd := ((sd.below bl1).below bl2).below hb
  clear bl1 bl2 al rl bb hra hb b20 o jx cv hpl
  go_wp2_with (at_make; refine wpList_zeros _ rfl (.const (.int .i64 1048559)) (.const (.int .i64 1048559)) rfl 1048559 1048559 rfl rfl rfl (by omega) ?_; intro w22 Z22 hZ22 row22 hbg; replace hZ22 := hid hZ22)
  obtain ⟨a1, d5, a3, c5⟩ := c4.snap (l := 2) (s := 2) (f := 1) Z22 (by rw [hZ22.out]; omega) 2 rfl
  refine (snapshot_w w.heap.size gj pd x20 d4 2 2 1 false _ 1048559 1048559 Z22 _ 0 _ (jw.below hbg) (sd.below hbg) (bnext b21 hbg).size (by have := c4.few; omega) hZ22.out row22.at a1 a3).mono ?_
  rintro e w23 ⟨rfl, x23, n⟩
  have b23 := (bnext b21 hbg).trans n.bel
  clear jw sd b21 a1 a3 hbg row22 hZ22 c4
  have jw := n.jw
  have sd := n.disk
  clear n
  have bl := below_lit w23 (.cells #[.int .u8 122] 5 (1, 2))
  go_wp2_with fail
  obtain ⟨a1, d6, a3, c6⟩ := c5.snap (l := 2) (s := 2) (f := 2) [122] (by decide) 1 rfl
  refine (snapshot_w w.heap.size gj pd x23 d5 2 2 2 false _ 1 1 [122] _ 0 _ (jw.below bl) (sd.below bl) (bnext b23 bl).size (by have := c5.few; omega) rfl (at_mark w23 [122] _ _ rfl) a1 a3).mono ?_
  rintro e w24 ⟨rfl, x24, n⟩
  have b24 := (bnext b23 bl).trans n.bel
  clear jw sd b23 a1 a3 bl c5
  have jw := n.jw
  have sd := n.disk
  clear n
  go_wp2_with fail
  refine (new_any _).mono ?_
  rintro e w25 ⟨pg, x25, rfl, h1, ht1, hr1, bg25⟩
  have sg : Sole w24.heap.size w25 pg x25 Dsk.new := ⟨h1, fun k e => ht1 k e, fun k e => absurd e (hr1 k), Dsk.new_inv⟩
  clear h1 ht1 hr1
  have c0 : Clm Dsk.new (fun _ => []) 0 := ⟨⟨rfl, rfl, rfl⟩, rfl, Nat.le_refl _⟩
  obtain ⟨ga, cg⟩ := c0.app (g := 0) (by omega) eG (by decide +kernel)
  go_wp2_with fail
  refine (recordbytes_ok 3 0 none 0 0 [] _ (by decide) (by decide) rfl (by decide) (fun h => absurd rfl h)).mono ?_
  rintro e w26 ⟨gf, rfl, hgf, rowf, hb⟩
  have bg26 := bnext bg25 hb
  have hsep : ¬ Turn pg x25 gf := fun e => by have := sg.is.1.turn_lt _ e; omega
  replace sg := sg.below hb
  clear hb bg25 hgf c0
  go_wp2_with fail
  refine (append_sole w24.heap.size pg x25 Dsk.new (Dsk.new.appD 0 eG) 0 0 (some ⟨gf, 0, none⟩) 17 17 eG _ sg bg26.size (by decide) (by decide +kernel) (by decide) rowf.at (fun ad e => by cases e; exact hsep) ga rfl).mono ?_
  rintro e w27 ⟨rfl, x27, t27, g27, k27⟩
  have bg27 := bg26.trans (k27.below sg.turn bg26.size)
  have atf := rowf.at.kp k27 (fun ad e => by cases e; exact hsep)
  clear bg26 sg rowf hsep k27 g27
  go_wp2_with fail
  refine (open_g w24.heap.size pg x27 _ _ _ _ t27 cg rfl rfl rfl).mono ?_
  rintro e w28 ⟨rfl, hb⟩
  have bg28 := bnext bg27 hb
  have atf28 := At.below atf hb
  clear hb bg27 atf t27 cg ga
  go_wp2_with fail
  refine (open_nil _).mono ?_
  rintro e w29 ⟨rfl, hb⟩
  have bg29 := bnext bg28 hb
  have atf29 := At.below atf28 hb
  clear hb bg28 atf28
  go_wp2_with fail
  refine (records_four _ _ atf29).mono ?_
  rintro e w30 ⟨ra30, rc30, rfl, hb⟩
  have bg30 := bnext bg29 hb
  replace jw := jw.below bg30
  replace sd := sd.below bg30
  have b30 := bnext b24 bg30
  clear hb bg29 atf29 bg30 b24
  go_wp2_with fail
  refine (open_c w.heap.size pd x24 d6 _ 0 Z22 _ sd b30.size c6 rfl rfl rfl).mono ?_
  rintro e w31 ⟨gy, sa31, sc31, v31, x31, rfl, o⟩
  have b31 := b30.trans o.bel
  have hne : gj ≠ gy := by have := jw.blk.lt; have := o.fresh; omega
  replace jw := jw.turned o.grow o.kp
  have jy := o.jw
  clear sd b30
  have sd := o.disk
  clear o
  go_wp2_with fail
  refine (fail_sole w.heap.size pd x31 d6 (d6.failD 0 4) 0 4 0 _ sd b31.size (by decide) (by decide) rfl).mono ?_
  rintro e w32 ⟨rfl, x32, t32, g32, k32⟩
  have b32 := b31.trans (k32.below sd.turn b31.size)
  replace jw := jw.turned g32 k32
  replace jy := jy.turned g32 k32
  clear sd b31 g32 k32
  obtain ⟨a1, a2, d8, a3, hd8⟩ := ap_fails (d6.failD 0 4) 2 2 1 1 [] 4 (by decide) (by decide) (by decide) (fails_four c6 _ rfl (by decide +kernel)) (by decide)
  have hops : (d6.failD 0 4).ops.length ≤ 0 := by unfold Dsk.failD; rw [if_neg (by decide)]; exact c6.few
  go_wp2_with fail
  refine (append_w w.heap.size gy pd x32 (d6.failD 0 4) 2 2 1 false 1 none 0 0 [] _ 0 4 _ jy t32 b32.size (by omega) rfl (fun h => absurd rfl h) a1 a2 a3).mono ?_
  rintro e w33 ⟨rfl, x33, n⟩
  have b33 := b32.trans n.bel
  replace jw := jw.other n.grow n.kp hne
  clear jy t32 b32 a1 a2 a3
  have jy := n.jw
  have sd := n.disk
  clear n
  go_wp2_with fail
  refine (broken_blk gy ⟨pd, 0, none⟩ 2 2 1 true _ jy.blk).mono ?_
  rintro e w33 ⟨rfl, rfl⟩
  go_wp2_with fail
  refine (last_blk gy ⟨pd, 0, none⟩ 2 2 1 true _ jy.blk).mono ?_
  rintro e w33 ⟨rfl, rfl⟩
  go_wp2_with fail
  refine (arm_sole w.heap.size pd x33 d8 0 _ sd b33.size (by decide)).mono ?_
  rintro e w34 ⟨rfl, x34, t34, g34, k34⟩
  have b34 := b33.trans (k34.below sd.turn b33.size)
  replace jw := jw.turned g34 k34
  clear sd b33 g34 k34 jy
  obtain ⟨a1, d9, a3, hd9⟩ := sy_fails { d8 with arm := ((0 : Nat) : Int) } 2 2 1 6 (arm_six d8) (by decide)
  have hd9' : d9.ops.length ≤ d8.ops.length + 1 := hd9
  go_wp2_with fail
  refine (sync_w w.heap.size gj pd x34 _ 2 2 1 false _ 6 _ jw t34 b34.size (by show d8.ops.length ≤ _; omega) a1 a3).mono ?_
  rintro e w35 ⟨rfl, x35, n⟩
  have b35 := b34.trans n.bel
  clear jw t34 b34 a1 a3
  have jw := n.jw
  have sd := n.disk
  clear n
  obtain ⟨a1, a2, a3⟩ := ap_broken d9 2 2 1 1 []
  go_wp2_with fail
  refine (append_w w.heap.size gj pd x35 d9 2 2 1 true 1 none 0 0 [] _ 0 4 _ jw sd b35.size (by omega) rfl (fun h => absurd rfl h) a1 a2 a3).mono ?_
  rintro e w36 ⟨rfl, x36, n⟩
  have b36 := b35.trans n.bel
  clear jw sd b35 a1 a2 a3
  have jw := n.jw
  have sd := n.disk
  clear n
  go_wp2_with fail
  refine (broken_blk gj ⟨pd, 0, none⟩ 2 2 1 true _ jw.blk).mono ?_
  rintro e w36 ⟨rfl, rfl⟩
  obtain ⟨a1, a3⟩ := sn_broken d9 2 2 1 []
  go_wp2_with fail
  refine (snapshot_w w.heap.size gj pd x36 d9 2 2 1 true none 0 0 [] _ 4 _ jw sd b36.size (by omega) rfl (fun h => absurd rfl h) a1 a3).mono ?_
  rintro e w37 ⟨rfl, x37, n⟩
  have b37 := b36.trans n.bel
  have jz := n.jw
  clear jw sd b36 a1 a3 n
  go_wp2_with fail
  refine (last_blk gj ⟨pd, 0, none⟩ 2 2 1 true _ jz.blk).mono ?_
  rintro e w37 ⟨rfl, rfl⟩
  go_wp2_with fail
  refine (awake_any _).mono ?_
  rintro e w38 ⟨rfl, hb⟩
  have b38 := bnext b37 hb
  go_wp2
  go_ret
  exact ⟨rfl, b38⟩
end Go.Proofs.Ytcbgnodmamcmkaa
