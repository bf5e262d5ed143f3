/- FileCrashes' Go text returns true for any slice of numbers, and turns nothing that was there. -/
import Derived.Test.YtpngnmogjmdmhaaVals
namespace Go.Proofs.Ytpngnmogjmdmhaa
open Go.RowKit

theorem tblk_new (w : World) (f : Fs) : TBlk (w.alloc (.cells #[.string (txt (f 0)), .string (txt (f 1)), .string (txt (f 2))] 66)) w.heap.size (fun i => txt (f i)) := heap_alloc_new w _

structure Cr (w wr : World) (p : Nat) (x : Dx) (d : Dsk) (g j : Nat) : Prop where
  sole : Sole w.heap.size wr p x d
  calm : Calm d
  few : d.ops.length ≤ j
  safe : TBlk wr g (fun i => txt (d.dur i))
  fresh : w.heap.size ≤ g
  off : ¬ Turn p x g
  offr : ¬ Reads x g
  bel : Below w.heap.size w wr

theorem TBlk.kp {S : Nat → Prop} {w w' : World} {g : Nat} {t : Nat → ByteArray} (h : TBlk w g t) (hk : Kp S w w') (hn : ¬ S g) : TBlk w' g t := by
  unfold TBlk; rw [hk.block g h.lt hn]; exact h

theorem Sole.aside {base : Nat} {w w' : World} {p g : Nat} {x : Dx} {d : Dsk} (h : Sole base w p x d) (hk : Kp (fun k => k = g) w w') (h1 : ¬ Turn p x g) (h2 : ¬ Reads x g) : Sole base w' p x d :=
  ⟨⟨h.is.1.kp hk (fun _ e1 e2 => h1 (e2 ▸ e1)) (fun _ e1 e2 => h2 (e2 ▸ e1)), h.is.2⟩, h.turn, h.reads, h.inv⟩

theorem Cr.off' {w wr : World} {p : Nat} {x x' : Dx} {d : Dsk} {g j : Nat} (h : Cr w wr p x d g j) (hg : Grow wr p x x') : ¬ Turn p x' g ∧ ¬ Reads x' g := by
  have hlt := h.safe.lt
  refine ⟨fun e => ?_, fun e => ?_⟩
  · rcases hg.1 g e with h1 | h1
    · exact h.off h1
    · omega
  · rcases hg.2 g e with h1 | h1
    · exact h.offr h1
    · omega

/-- What the last region's slots hold. -/
def crV (p1 p2 p3 p : Nat) (C D : Value) : List Value :=
  [.int .i64 0, .int .i64 0, .int .i64 0, .int .i64 0, .int .i64 0, .bool true, .bool true,
   .pointer (some ⟨p1, 0, none⟩), C, C, .bool true, .bool true, .bool true,
   .pointer (some ⟨p2, 0, none⟩), C, C, .bool true, .bool true, .bool true,
   .pointer (some ⟨p3, 0, none⟩), D, D, .bool true, .bool true, .bool true,
   .pointer (some ⟨p, 0, none⟩), C, C, .bool true, .bool true, .bool true,
   .bool true, .bool true, .bool true]

theorem add00 (w : World) : (binOp .add 24 (.int .i64 0) (.int .i64 0)).run Try.prog w = .ok (.int .i64 0) w := rfl
theorem eql00 (w : World) : (binOp .eql 24 (.int .i64 0) (.int .i64 0)).run Try.prog w = .ok (.bool true) w := rfl

set_option maxRecDepth 100000 in
set_option maxHeartbeats 8000000 in
theorem crashes_any (a : Option Addr) (len cap : Nat) (w : World) (hat : IAt w a len) (hlen : len ≤ 140737488355328) :
    Calls Try.prog 7 #[.slice a len cap] w fun e w' => e = .returned (.bool true) ∧ Below w.heap.size w w' := by
  go_enter Try.func7, Try.ntmps7
  go_wp2_with fail
  refine (new_any w).mono ?_
  rintro e w1 ⟨p, x1, rfl, h1, ht1, hr1, hb1⟩
  have s1 : Sole w.heap.size w1 p x1 Dsk.new := ⟨h1, ht1, fun k e => absurd e (hr1 k), Dsk.new_inv⟩
  go_wp2_with fail
  refine (all_sole w.heap.size p x1 Dsk.new _ s1 (txt (Dsk.new.dur 0)) (txt (Dsk.new.dur 1)) (txt (Dsk.new.dur 2)) rfl).mono ?_
  rintro e w2 ⟨rfl, hb2⟩
  have s2 := s1.below hb2
  have t2 := tblk_new w2 Dsk.new.dur
  have b2 := bnext (bnext hb1 hb2) (below_lit w2 (.cells #[.string (txt (Dsk.new.dur 0)), .string (txt (Dsk.new.dur 1)), .string (txt (Dsk.new.dur 2))] 66))
  have c2 : Cr w _ p x1 Dsk.new w2.heap.size 0 := ⟨s2.below (below_lit w2 (.cells #[.string (txt (Dsk.new.dur 0)), .string (txt (Dsk.new.dur 1)), .string (txt (Dsk.new.dur 2))] 66)), Calm.new, Nat.le_refl _, t2, Nat.le_trans hb1.size hb2.size, (fun e => by have := s2.is.1.turn_lt _ e; omega), (fun e => by have := s2.is.1.reads_lt _ e; omega), b2⟩
  obtain ⟨g, hg⟩ : ∃ g, g = w2.heap.size := ⟨_, rfl⟩
  rw [← hg] at c2
  go_wp2_with fail
  rw [← hg]
  clear t2 b2 s2 s1 ht1 hr1 h1
  replace hg := hid hg
  go_loopw [5] (fun i wr => ∃ (j : Nat) (x : Dx) (d : Dsk), j ≤ len ∧ j ≤ 30 ∧ i = .int .i64 j ∧ Cr w wr p x d g j) (fun i _ => 30 - (intOf i).toNat)
  case atStart => exact ⟨0, x1, Dsk.new, Nat.zero_le _, Nat.zero_le _, rfl, c2⟩
  case round =>
    obtain ⟨j, x, d, hj1, hj2, rfl, hC⟩ := hrel
    clear c2
    by_cases hlt : j < len ∧ j < 30
    · have hd1 : decide ((j : Int) < (len : Int)) = true := decide_eq_true (by omega)
      have hd2 : decide ((j : Int) < 30) = true := decide_eq_true (by omega)
      obtain ⟨b, o, rfl, hcell⟩ := (hat.below hC.bel) (by omega)
      obtain ⟨z, hz⟩ := hcell j hlt.1
      clear hcell
      have hj30 := hlt.2
      have hjl := hlt.1
      clear hlt
      go_wp2_with fail
      refine (pick_any z 1000003 _ (by decide) (by decide)).mono ?_
      rintro e w3 ⟨⟨n, hn, rfl⟩, rfl⟩
      by_cases h7 : (n : Int) % 7 = 0
      · have e7 : ((n : Int) % 7 == 0) = true := by rw [h7]; rfl
        go_wp2_with fail
        refine (sync_sole w.heap.size p x d d.sync 0 _ hC.sole hC.bel.size (by have := hC.few; omega) hC.calm.errs hC.calm.syncD).mono ?_
        rintro e w4 ⟨rfl, x4, s4, g4, k4⟩
        go_wp2_with fail
        refine (all_sole w.heap.size p x4 d.sync _ s4 (txt (d.cur 0)) (txt (d.cur 1)) (txt (d.cur 2)) hC.calm.sync.val).mono ?_
        rintro e w5 ⟨rfl, hb5⟩
        have t4 : TBlk w4 g (fun i => txt (d.dur i)) := hC.safe.kp k4 hC.off
        have t5 := t4.below hb5
        have y0 := t5.cell 0 (by omega)
        have y1 := t5.cell 1 (by omega)
        have y2 := t5.cell 2 (by omega)
        have f0 := t5.free 0
        have f1 := t5.free 1
        have f2 := t5.free 2
        have tr := ((t5.set 0 (by omega) (txt (d.cur 0))).set 1 (by omega) (txt (d.cur 1))).set 2 (by omega) (txt (d.cur 2))
        obtain ⟨o4, or4⟩ := hC.off' g4
        have kS : Kp (fun k => k = g) w5 (((w5.setCell ⟨g, 0, none⟩ (.string (txt (d.cur 0)))).setCell ⟨g, 1, none⟩ (.string (txt (d.cur 1)))).setCell ⟨g, 2, none⟩ (.string (txt (d.cur 2)))) :=
          Kp.setCell (S := fun k => k = g) (p := ⟨g, 2, none⟩) (Kp.setCell (S := fun k => k = g) (p := ⟨g, 1, none⟩) (Kp.setCell (S := fun k => k = g) (p := ⟨g, 0, none⟩) (Kp.refl _ _) rfl _) rfl _) rfl _
        have s6 := (s4.below hb5).aside kS o4 or4
        have b6 := ((hC.bel.trans (k4.below hC.sole.turn hC.bel.size)).trans (hb5.mono (Nat.le_trans hC.bel.size k4.size))).trans (kS.below (fun k e => by rw [e]; exact hC.fresh) (Nat.le_trans (Nat.le_trans hC.bel.size k4.size) hb5.size))
        have hrel : Cr w _ p x4 d.sync g (j + 1) := ⟨s6, hC.calm.sync, Nat.zero_le _, tr, hC.fresh, o4, or4, b6⟩
        replace hrel := hid hrel
        clear tr s6 b6 kS
        go_wp2
        go_roundw
        case rel => exact ⟨j + 1, x4, d.sync, by omega, by omega, by go_num, hrel.out⟩
        case measure => simp [intOf]; omega
      · have e7 : ((n : Int) % 7 == 0) = false := beq_eq_false_iff_ne.2 h7
        obtain ⟨m, hm, hm2⟩ : ∃ m : Nat, (n : Int) / 7 = m ∧ m ≤ 2000000 := ⟨n / 7, by omega, by omega⟩
        have hca := call_any w.heap.size p x d m j _ hC.sole hC.bel.size hC.calm (by have := hC.few; omega) hm2 (by omega) (by omega)
        replace hm := hid hm
        go_wp2_with fail
        rw [hm.out]
        refine hca.mono ?_
        rintro e w4 ⟨rfl, d4, x4, hd4, s4, g4, k4⟩
        obtain ⟨o4, or4⟩ := hC.off' g4
        obtain ⟨q1, q2, q3⟩ := hC.calm.done hd4
        have hrel : Cr w w4 p x4 d4 g (j + 1) := ⟨s4, q1, by have := hC.few; omega, by rw [q2]; exact hC.safe.kp k4 hC.off, hC.fresh, o4, or4, hC.bel.trans (k4.below hC.sole.turn hC.bel.size)⟩
        replace hrel := hid hrel
        clear q1 q2 q3
        go_wp2
        go_roundw
        case rel => exact ⟨j + 1, x4, d4, by omega, by omega, by go_num, hrel.out⟩
        case measure => simp [intOf]; omega
    · have hfew : d.ops.length ≤ 30 := by have := hC.few; omega
      have hstop : (j < len ∧ j < 30) = False := eq_false hlt
      have s3 := hC.sole
      have b3 := hC.bel
      have ca := hC.calm
      have off := hC.off
      have offr := hC.offr
      have safe := hC.safe
      have fresh := hC.fresh
      clear hC
      by_cases hl : j < len
      · have hd1 : decide ((j : Int) < (len : Int)) = true := decide_eq_true (by omega)
        have hd2 : decide ((j : Int) < 30) = false := decide_eq_false (by omega)
        go_wp2_with fail
        refine (all_sole w.heap.size p x d _ s3 (txt (d.cur 0)) (txt (d.cur 1)) (txt (d.cur 2)) ca.val).mono ?_
        rintro e w4 ⟨rfl, hb4⟩
        have bl := below_lit w4 (.cells #[.string (txt (d.cur 0)), .string (txt (d.cur 1)), .string (txt (d.cur 2))] 66)
        have th := tblk_new w4 d.cur
        have b45 := bnext hb4 bl
        have s5 := s3.below b45
        have safe5 := safe.below b45
        have b5 := bnext b3 b45
        have z5 := b45.size
        have zg := safe.lt
        obtain ⟨h, hh⟩ : ∃ h, h = w4.heap.size := ⟨_, rfl⟩
        rw [← hh] at th
        have zh := th.lt
        clear s3 safe b45
        go_wp2_with fail
        rw [← hh]
        generalize w4.alloc (.cells #[.string (txt (d.cur 0)), .string (txt (d.cur 1)), .string (txt (d.cur 2))] 66) = w5 at *
        replace hh := hid hh
        refine (copy_sole w.heap.size p x d _ s5 b5.size (by omega)).mono ?_
        rintro e w6 ⟨p1, y1, rfl, S1, A1, T1, R1, hb6⟩
        have s6 := s5.below hb6
        have b6 := bnext b5 hb6
        go_wp2_with fail
        refine (copy_sole w.heap.size p x d _ s6 b6.size (by omega)).mono ?_
        rintro e w7 ⟨p2, y2, rfl, S2, A2, T2, R2, hb7⟩
        have s7 := s6.below hb7
        have b7 := bnext b6 hb7
        have A12 := apart_later S1 A1 T2 R2
        have S1b := S1.below hb7
        go_wp2_with fail
        refine (copy_sole w.heap.size p x d _ s7 b7.size (by omega)).mono ?_
        rintro e w8 ⟨p3, y3, rfl, S3, A3, T3, R3, hb8⟩
        have s8 := s7.below hb8
        have b8 := bnext b7 hb8
        have A13 := apart_later S1b A1 T3 R3
        have A23 := apart_later S2 A2 T3 R3
        have S1c := S1b.below hb8
        have S2c := S2.below hb8
        have zz6 := hb6.size
        have zz7 := hb7.size
        have t8 := ((th.below hb6).below hb7).below hb8
        have f8 := ((safe5.below hb6).below hb7).below hb8
        go_wp2_with fail
        refine (crash_sole w.heap.size p1 y1 d (d.crash 100 0) 100 0 0 _ S1c b8.size (by omega) (by decide) (by unfold Dsk.crashD; rw [if_neg (by decide)]; rfl)).mono ?_
        rintro e w9 ⟨rfl, y1', S1d, G1, K1⟩
        have s9 := A1.sole K1 s8
        have S2d := A12.sole K1 S2c
        have S3d := A13.sole K1 S3
        have A12' := A12.keep G1 S2c.is
        have A13' := A13.keep G1 S3.is
        have t9 := t8.kp K1 (fun e => by have := T1 _ e; omega)
        have f9 := f8.kp K1 (fun e => by have := T1 _ e; omega)
        have b9 := b8.trans (K1.below S1c.turn b8.size)
        go_wp2_with fail
        refine (sync_sole w.heap.size p2 y2 d d.sync 0 _ S2d b9.size (by omega) ca.errs ca.syncD).mono ?_
        rintro e w10 ⟨rfl, y2', S2e, G2, K2⟩
        have s10 := A2.sole K2 s9
        have S1e := A12'.symm.sole K2 S1d
        have S3e := A23.sole K2 S3d
        have A23' := A23.keep G2 S3d.is
        have t10 := t9.kp K2 (fun e => by have := T2 _ e; omega)
        have f10 := f9.kp K2 (fun e => by have := T2 _ e; omega)
        have b10 := b9.trans (K2.below S2d.turn b9.size)
        go_wp2_with fail
        refine (crash_sole w.heap.size p3 y3 d (d.crash 0 0) 0 0 0 _ S3e b10.size (by omega) (by decide) (by unfold Dsk.crashD; rw [if_neg (by decide)]; rfl)).mono ?_
        rintro e w11 ⟨rfl, y3', S3f, G3, K3⟩
        have s11 := A3.sole K3 s10
        have S1f := A13'.symm.sole K3 S1e
        have S2f := A23'.symm.sole K3 S2e
        have t11 := t10.kp K3 (fun e => by have := T3 _ e; omega)
        have f11 := f10.kp K3 (fun e => by have := T3 _ e; omega)
        have b11 := b10.trans (K3.below S3e.turn b10.size)
        have v1 : (d.crash 100 0).val = tv d.cur := by rw [(crash_calm d 100 0).val]; exact tv_ext (crash_keep s11.inv 100 0 (by omega))
        have v2 : d.sync.val = tv d.cur := ca.sync.val
        have v3 : (d.crash 0 0).val = tv d.dur := by rw [(crash_calm d 0 0).val]; exact tv_ext (crash_none d)
        have v4 : d.val = tv d.cur := ca.val
        clear S1 S1b S1c S1d S1e S2 S2c S2d S2e S3 S3d S3e s5 s6 s7 s8 s9 s10 t8 t9 t10 f8 f9 f10 A1 A2 A3 A12 A13 A23 A12' A13' A23' T1 T2 T3 R1 R2 R3 G1 G2 G3 K1 K2 K3 safe5 th
        have c1 := fun (W : World) (hb : Below w11.heap.size w11 W) => all_sole w.heap.size p1 y1' (d.crash 100 0) W (S1f.below hb) (txt (d.cur 0)) (txt (d.cur 1)) (txt (d.cur 2)) v1
        have c2 := fun (W : World) (hb : Below w11.heap.size w11 W) => all_sole w.heap.size p2 y2' d.sync W (S2f.below hb) (txt (d.cur 0)) (txt (d.cur 1)) (txt (d.cur 2)) v2
        have c3 := fun (W : World) (hb : Below w11.heap.size w11 W) => all_sole w.heap.size p3 y3' (d.crash 0 0) W (S3f.below hb) (txt (d.dur 0)) (txt (d.dur 1)) (txt (d.dur 2)) v3
        have c4 := fun (W : World) (hb : Below w11.heap.size w11 W) => all_sole w.heap.size p x d W (s11.below hb) (txt (d.cur 0)) (txt (d.cur 1)) (txt (d.cur 2)) v4
        replace v1 := hid v1
        replace v2 := hid v2
        replace v3 := hid v3
        replace v4 := hid v4
        go_wp2_with fail
        refine wp_region_drawn (Rel := fun w w' => Below w.heap.size w w') (Pr := fun i v _ => v = (crV p1 p2 p3 p (.agg #[.string (txt (d.cur 0)), .string (txt (d.cur 1)), .string (txt (d.cur 2))]) (.agg #[.string (txt (d.dur 0)), .string (txt (d.dur 1)), .string (txt (d.dur 2))])).getD i undef) (by kernel_rfl) (by kernel_rfl) (drew_below _) bel_tr (fun _ _ _ _ h _ => h) ?_ ?_
        · refine ⟨?_, ?_, ?_, ?_, ?_, ?_, ?_, ?_, ?_, ?_, ?_, ?_, ?_, ?_, ?_, ?_, ?_, ?_, ?_, ?_, ?_, ?_, ?_, ?_, ?_, ?_, ?_, ?_, ?_, ?_, ?_, ?_, ?_, ?_, trivial⟩
          · exact fun a w hR hd hk K hK => yes (want_n rfl) (wp_mv _ rfl _ (get_keep (hk 11 (no_dst (by kernel_rfl))) rfl) (hK _ w rfl (Below.refl _ _)))
          · exact fun a w hR hd hk K hK => yes (want_n rfl) (wp_mv _ rfl _ (get_keep (hk 12 (no_dst (by kernel_rfl))) rfl) (hK _ w rfl (Below.refl _ _)))
          · exact fun a w hR hd hk K hK => yes (want_n rfl) (wp_bin _ _ _ _ _ rfl _ _ _ (hd 0 _ 58 rfl rfl rfl) (hd 1 _ 59 rfl rfl rfl) rfl (add00 _) (hK _ w rfl (Below.refl _ _)))
          · exact fun a w hR hd hk K hK => yes (want_n rfl) (wp_mv _ rfl _ (get_keep (hk 13 (no_dst (by kernel_rfl))) rfl) (hK _ w rfl (Below.refl _ _)))
          · exact fun a w hR hd hk K hK => yes (want_n rfl) (wp_bin _ _ _ _ _ rfl _ _ _ (hd 2 _ 60 rfl rfl rfl) (hd 3 _ 61 rfl rfl rfl) rfl (add00 _) (hK _ w rfl (Below.refl _ _)))
          · exact fun a w hR hd hk K hK => yes (want_n rfl) (wp_bin _ _ _ _ _ rfl _ _ _ (hd 4 _ 62 rfl rfl rfl) rfl rfl (eql00 _) (hK _ w rfl (Below.refl _ _)))
          · exact fun a w hR hd hk K hK => yes (want_n rfl) (wp_mv _ rfl _ (hd 5 _ 63 rfl rfl rfl) (hK _ w rfl (Below.refl _ _)))
          · exact fun a w hR hd hk K hK => yes (want_g rfl rfl (hd 6 _ 64 rfl rfl rfl)) (wp_mv _ rfl _ (get_keep (hk 8 (no_dst (by kernel_rfl))) rfl) (hK _ w rfl (Below.refl _ _)))
          · exact fun a w hR hd hk K hK => yes (want_g rfl rfl (hd 6 _ 64 rfl rfl rfl)) (wp_callv 25 _ _ rfl _ Try.func25 rfl rfl _ (args1 (hd 7 _ 65 rfl rfl rfl)) (c1 w hR) (by rintro e w' ⟨rfl, hb⟩; exact ⟨_, rfl, hK _ w' rfl hb⟩))
          · exact fun a w hR hd hk K hK => yes (want_g rfl rfl (hd 6 _ 64 rfl rfl rfl)) (wp_load_row _ _ rfl h (get_keep (hk 7 (no_dst (by kernel_rfl))) rfl) 66 _ _ _ (t11.below hR) Try.underlying66 rfl info66 (hK _ w rfl (Below.refl _ _)))
          · exact fun a w hR hd hk K hK => yes (want_g rfl rfl (hd 6 _ 64 rfl rfl rfl)) (wp_bin _ _ _ _ _ rfl _ _ _ (hd 8 _ 66 rfl rfl rfl) (hd 9 _ 67 rfl rfl rfl) rfl (eq_same _ _ _ _) (hK _ w rfl (Below.refl _ _)))
          · exact fun a w hR hd hk K hK => yes (want_n rfl) (wp_pick _ _ _ rfl true _ (hd 6 _ 64 rfl rfl rfl) (hd 10 _ 68 rfl rfl rfl) (hK _ w rfl (Below.refl _ _)))
          · exact fun a w hR hd hk K hK => yes (want_n rfl) (wp_mv _ rfl _ (hd 11 _ 69 rfl rfl rfl) (hK _ w rfl (Below.refl _ _)))
          · exact fun a w hR hd hk K hK => yes (want_g rfl rfl (hd 12 _ 70 rfl rfl rfl)) (wp_mv _ rfl _ (get_keep (hk 9 (no_dst (by kernel_rfl))) rfl) (hK _ w rfl (Below.refl _ _)))
          · exact fun a w hR hd hk K hK => yes (want_g rfl rfl (hd 12 _ 70 rfl rfl rfl)) (wp_callv 25 _ _ rfl _ Try.func25 rfl rfl _ (args1 (hd 13 _ 71 rfl rfl rfl)) (c2 w hR) (by rintro e w' ⟨rfl, hb⟩; exact ⟨_, rfl, hK _ w' rfl hb⟩))
          · exact fun a w hR hd hk K hK => yes (want_g rfl rfl (hd 12 _ 70 rfl rfl rfl)) (wp_load_row _ _ rfl h (get_keep (hk 7 (no_dst (by kernel_rfl))) rfl) 66 _ _ _ (t11.below hR) Try.underlying66 rfl info66 (hK _ w rfl (Below.refl _ _)))
          · exact fun a w hR hd hk K hK => yes (want_g rfl rfl (hd 12 _ 70 rfl rfl rfl)) (wp_bin _ _ _ _ _ rfl _ _ _ (hd 14 _ 72 rfl rfl rfl) (hd 15 _ 73 rfl rfl rfl) rfl (eq_same _ _ _ _) (hK _ w rfl (Below.refl _ _)))
          · exact fun a w hR hd hk K hK => yes (want_n rfl) (wp_pick _ _ _ rfl true _ (hd 12 _ 70 rfl rfl rfl) (hd 16 _ 74 rfl rfl rfl) (hK _ w rfl (Below.refl _ _)))
          · exact fun a w hR hd hk K hK => yes (want_n rfl) (wp_mv _ rfl _ (hd 17 _ 75 rfl rfl rfl) (hK _ w rfl (Below.refl _ _)))
          · exact fun a w hR hd hk K hK => yes (want_g rfl rfl (hd 18 _ 76 rfl rfl rfl)) (wp_mv _ rfl _ (get_keep (hk 10 (no_dst (by kernel_rfl))) rfl) (hK _ w rfl (Below.refl _ _)))
          · exact fun a w hR hd hk K hK => yes (want_g rfl rfl (hd 18 _ 76 rfl rfl rfl)) (wp_callv 25 _ _ rfl _ Try.func25 rfl rfl _ (args1 (hd 19 _ 77 rfl rfl rfl)) (c3 w hR) (by rintro e w' ⟨rfl, hb⟩; exact ⟨_, rfl, hK _ w' rfl hb⟩))
          · exact fun a w hR hd hk K hK => yes (want_g rfl rfl (hd 18 _ 76 rfl rfl rfl)) (wp_load_row _ _ rfl g (get_keep (hk 4 (no_dst (by kernel_rfl))) rfl) 66 _ _ _ (f11.below hR) Try.underlying66 rfl info66 (hK _ w rfl (Below.refl _ _)))
          · exact fun a w hR hd hk K hK => yes (want_g rfl rfl (hd 18 _ 76 rfl rfl rfl)) (wp_bin _ _ _ _ _ rfl _ _ _ (hd 20 _ 78 rfl rfl rfl) (hd 21 _ 79 rfl rfl rfl) rfl (eq_same _ _ _ _) (hK _ w rfl (Below.refl _ _)))
          · exact fun a w hR hd hk K hK => yes (want_n rfl) (wp_pick _ _ _ rfl true _ (hd 18 _ 76 rfl rfl rfl) (hd 22 _ 80 rfl rfl rfl) (hK _ w rfl (Below.refl _ _)))
          · exact fun a w hR hd hk K hK => yes (want_n rfl) (wp_mv _ rfl _ (hd 23 _ 81 rfl rfl rfl) (hK _ w rfl (Below.refl _ _)))
          · exact fun a w hR hd hk K hK => yes (want_g rfl rfl (hd 24 _ 82 rfl rfl rfl)) (wp_mv _ rfl _ (get_keep (hk 3 (no_dst (by kernel_rfl))) rfl) (hK _ w rfl (Below.refl _ _)))
          · exact fun a w hR hd hk K hK => yes (want_g rfl rfl (hd 24 _ 82 rfl rfl rfl)) (wp_callv 25 _ _ rfl _ Try.func25 rfl rfl _ (args1 (hd 25 _ 83 rfl rfl rfl)) (c4 w hR) (by rintro e w' ⟨rfl, hb⟩; exact ⟨_, rfl, hK _ w' rfl hb⟩))
          · exact fun a w hR hd hk K hK => yes (want_g rfl rfl (hd 24 _ 82 rfl rfl rfl)) (wp_load_row _ _ rfl h (get_keep (hk 7 (no_dst (by kernel_rfl))) rfl) 66 _ _ _ (t11.below hR) Try.underlying66 rfl info66 (hK _ w rfl (Below.refl _ _)))
          · exact fun a w hR hd hk K hK => yes (want_g rfl rfl (hd 24 _ 82 rfl rfl rfl)) (wp_bin _ _ _ _ _ rfl _ _ _ (hd 26 _ 84 rfl rfl rfl) (hd 27 _ 85 rfl rfl rfl) rfl (eq_same _ _ _ _) (hK _ w rfl (Below.refl _ _)))
          · exact fun a w hR hd hk K hK => yes (want_n rfl) (wp_pick _ _ _ rfl true _ (hd 24 _ 82 rfl rfl rfl) (hd 28 _ 86 rfl rfl rfl) (hK _ w rfl (Below.refl _ _)))
          · exact fun a w hR hd hk K hK => yes (want_n rfl) (wp_mv _ rfl _ (hd 29 _ 87 rfl rfl rfl) (hK _ w rfl (Below.refl _ _)))
          · exact fun a w hR hd hk K hK => yes (want_g rfl rfl (hd 30 _ 88 rfl rfl rfl)) (wp_callv 20 _ _ rfl _ Try.func20 rfl rfl #[] args0 (awake_any w) (by rintro e w' ⟨rfl, hb⟩; exact ⟨_, rfl, hK _ w' rfl hb⟩))
          · exact fun a w hR hd hk K hK => yes (want_n rfl) (wp_pick _ _ _ rfl true _ (hd 30 _ 88 rfl rfl rfl) (hd 31 _ 89 rfl rfl rfl) (hK _ w rfl (Below.refl _ _)))
          · exact fun a w hR hd hk K hK => yes (want_n rfl) (wp_as _ rfl _ (hd 32 _ 90 rfl rfl rfl) (hK _ w rfl (Below.refl _ _)))
        · intro a w12 hdf hsz hkp hval hR12
          obtain ⟨f, hf⟩ : ∃ f, f = fun d => a.tmps.getD d undef := ⟨_, rfl⟩
          have h2 : f 2 = .bool true := by rw [hf]; exact hval 33 _ 2 rfl rfl
          have hfa := act_filled hdf hsz hkp
          rw [← hf] at hfa
          rw [hfa]
          clear hdf hsz hkp hval hfa hf
          clear a
          simp only [fillAll, List.set_cons_zero, List.set_cons_succ, h2]
          have b12 := bnext b11 hR12
          clear h2 hR12 b11 c1 c2 c3 c4
          go_wp2
          go_ret
          exact ⟨rfl, b12⟩
      · have hd1 : decide ((j : Int) < (len : Int)) = false := decide_eq_false (by omega)
        go_wp2_with fail
        refine (all_sole w.heap.size p x d _ s3 (txt (d.cur 0)) (txt (d.cur 1)) (txt (d.cur 2)) ca.val).mono ?_
        rintro e w4 ⟨rfl, hb4⟩
        have bl := below_lit w4 (.cells #[.string (txt (d.cur 0)), .string (txt (d.cur 1)), .string (txt (d.cur 2))] 66)
        have th := tblk_new w4 d.cur
        have b45 := bnext hb4 bl
        have s5 := s3.below b45
        have safe5 := safe.below b45
        have b5 := bnext b3 b45
        have z5 := b45.size
        have zg := safe.lt
        obtain ⟨h, hh⟩ : ∃ h, h = w4.heap.size := ⟨_, rfl⟩
        rw [← hh] at th
        have zh := th.lt
        clear s3 safe b45
        go_wp2_with fail
        rw [← hh]
        generalize w4.alloc (.cells #[.string (txt (d.cur 0)), .string (txt (d.cur 1)), .string (txt (d.cur 2))] 66) = w5 at *
        replace hh := hid hh
        refine (copy_sole w.heap.size p x d _ s5 b5.size (by omega)).mono ?_
        rintro e w6 ⟨p1, y1, rfl, S1, A1, T1, R1, hb6⟩
        have s6 := s5.below hb6
        have b6 := bnext b5 hb6
        go_wp2_with fail
        refine (copy_sole w.heap.size p x d _ s6 b6.size (by omega)).mono ?_
        rintro e w7 ⟨p2, y2, rfl, S2, A2, T2, R2, hb7⟩
        have s7 := s6.below hb7
        have b7 := bnext b6 hb7
        have A12 := apart_later S1 A1 T2 R2
        have S1b := S1.below hb7
        go_wp2_with fail
        refine (copy_sole w.heap.size p x d _ s7 b7.size (by omega)).mono ?_
        rintro e w8 ⟨p3, y3, rfl, S3, A3, T3, R3, hb8⟩
        have s8 := s7.below hb8
        have b8 := bnext b7 hb8
        have A13 := apart_later S1b A1 T3 R3
        have A23 := apart_later S2 A2 T3 R3
        have S1c := S1b.below hb8
        have S2c := S2.below hb8
        have zz6 := hb6.size
        have zz7 := hb7.size
        have t8 := ((th.below hb6).below hb7).below hb8
        have f8 := ((safe5.below hb6).below hb7).below hb8
        go_wp2_with fail
        refine (crash_sole w.heap.size p1 y1 d (d.crash 100 0) 100 0 0 _ S1c b8.size (by omega) (by decide) (by unfold Dsk.crashD; rw [if_neg (by decide)]; rfl)).mono ?_
        rintro e w9 ⟨rfl, y1', S1d, G1, K1⟩
        have s9 := A1.sole K1 s8
        have S2d := A12.sole K1 S2c
        have S3d := A13.sole K1 S3
        have A12' := A12.keep G1 S2c.is
        have A13' := A13.keep G1 S3.is
        have t9 := t8.kp K1 (fun e => by have := T1 _ e; omega)
        have f9 := f8.kp K1 (fun e => by have := T1 _ e; omega)
        have b9 := b8.trans (K1.below S1c.turn b8.size)
        go_wp2_with fail
        refine (sync_sole w.heap.size p2 y2 d d.sync 0 _ S2d b9.size (by omega) ca.errs ca.syncD).mono ?_
        rintro e w10 ⟨rfl, y2', S2e, G2, K2⟩
        have s10 := A2.sole K2 s9
        have S1e := A12'.symm.sole K2 S1d
        have S3e := A23.sole K2 S3d
        have A23' := A23.keep G2 S3d.is
        have t10 := t9.kp K2 (fun e => by have := T2 _ e; omega)
        have f10 := f9.kp K2 (fun e => by have := T2 _ e; omega)
        have b10 := b9.trans (K2.below S2d.turn b9.size)
        go_wp2_with fail
        refine (crash_sole w.heap.size p3 y3 d (d.crash 0 0) 0 0 0 _ S3e b10.size (by omega) (by decide) (by unfold Dsk.crashD; rw [if_neg (by decide)]; rfl)).mono ?_
        rintro e w11 ⟨rfl, y3', S3f, G3, K3⟩
        have s11 := A3.sole K3 s10
        have S1f := A13'.symm.sole K3 S1e
        have S2f := A23'.symm.sole K3 S2e
        have t11 := t10.kp K3 (fun e => by have := T3 _ e; omega)
        have f11 := f10.kp K3 (fun e => by have := T3 _ e; omega)
        have b11 := b10.trans (K3.below S3e.turn b10.size)
        have v1 : (d.crash 100 0).val = tv d.cur := by rw [(crash_calm d 100 0).val]; exact tv_ext (crash_keep s11.inv 100 0 (by omega))
        have v2 : d.sync.val = tv d.cur := ca.sync.val
        have v3 : (d.crash 0 0).val = tv d.dur := by rw [(crash_calm d 0 0).val]; exact tv_ext (crash_none d)
        have v4 : d.val = tv d.cur := ca.val
        clear S1 S1b S1c S1d S1e S2 S2c S2d S2e S3 S3d S3e s5 s6 s7 s8 s9 s10 t8 t9 t10 f8 f9 f10 A1 A2 A3 A12 A13 A23 A12' A13' A23' T1 T2 T3 R1 R2 R3 G1 G2 G3 K1 K2 K3 safe5 th
        have c1 := fun (W : World) (hb : Below w11.heap.size w11 W) => all_sole w.heap.size p1 y1' (d.crash 100 0) W (S1f.below hb) (txt (d.cur 0)) (txt (d.cur 1)) (txt (d.cur 2)) v1
        have c2 := fun (W : World) (hb : Below w11.heap.size w11 W) => all_sole w.heap.size p2 y2' d.sync W (S2f.below hb) (txt (d.cur 0)) (txt (d.cur 1)) (txt (d.cur 2)) v2
        have c3 := fun (W : World) (hb : Below w11.heap.size w11 W) => all_sole w.heap.size p3 y3' (d.crash 0 0) W (S3f.below hb) (txt (d.dur 0)) (txt (d.dur 1)) (txt (d.dur 2)) v3
        have c4 := fun (W : World) (hb : Below w11.heap.size w11 W) => all_sole w.heap.size p x d W (s11.below hb) (txt (d.cur 0)) (txt (d.cur 1)) (txt (d.cur 2)) v4
        replace v1 := hid v1
        replace v2 := hid v2
        replace v3 := hid v3
        replace v4 := hid v4
        go_wp2_with fail
        refine wp_region_drawn (Rel := fun w w' => Below w.heap.size w w') (Pr := fun i v _ => v = (crV p1 p2 p3 p (.agg #[.string (txt (d.cur 0)), .string (txt (d.cur 1)), .string (txt (d.cur 2))]) (.agg #[.string (txt (d.dur 0)), .string (txt (d.dur 1)), .string (txt (d.dur 2))])).getD i undef) (by kernel_rfl) (by kernel_rfl) (drew_below _) bel_tr (fun _ _ _ _ h _ => h) ?_ ?_
        · refine ⟨?_, ?_, ?_, ?_, ?_, ?_, ?_, ?_, ?_, ?_, ?_, ?_, ?_, ?_, ?_, ?_, ?_, ?_, ?_, ?_, ?_, ?_, ?_, ?_, ?_, ?_, ?_, ?_, ?_, ?_, ?_, ?_, ?_, ?_, trivial⟩
          · exact fun a w hR hd hk K hK => yes (want_n rfl) (wp_mv _ rfl _ (get_keep (hk 11 (no_dst (by kernel_rfl))) rfl) (hK _ w rfl (Below.refl _ _)))
          · exact fun a w hR hd hk K hK => yes (want_n rfl) (wp_mv _ rfl _ (get_keep (hk 12 (no_dst (by kernel_rfl))) rfl) (hK _ w rfl (Below.refl _ _)))
          · exact fun a w hR hd hk K hK => yes (want_n rfl) (wp_bin _ _ _ _ _ rfl _ _ _ (hd 0 _ 58 rfl rfl rfl) (hd 1 _ 59 rfl rfl rfl) rfl (add00 _) (hK _ w rfl (Below.refl _ _)))
          · exact fun a w hR hd hk K hK => yes (want_n rfl) (wp_mv _ rfl _ (get_keep (hk 13 (no_dst (by kernel_rfl))) rfl) (hK _ w rfl (Below.refl _ _)))
          · exact fun a w hR hd hk K hK => yes (want_n rfl) (wp_bin _ _ _ _ _ rfl _ _ _ (hd 2 _ 60 rfl rfl rfl) (hd 3 _ 61 rfl rfl rfl) rfl (add00 _) (hK _ w rfl (Below.refl _ _)))
          · exact fun a w hR hd hk K hK => yes (want_n rfl) (wp_bin _ _ _ _ _ rfl _ _ _ (hd 4 _ 62 rfl rfl rfl) rfl rfl (eql00 _) (hK _ w rfl (Below.refl _ _)))
          · exact fun a w hR hd hk K hK => yes (want_n rfl) (wp_mv _ rfl _ (hd 5 _ 63 rfl rfl rfl) (hK _ w rfl (Below.refl _ _)))
          · exact fun a w hR hd hk K hK => yes (want_g rfl rfl (hd 6 _ 64 rfl rfl rfl)) (wp_mv _ rfl _ (get_keep (hk 8 (no_dst (by kernel_rfl))) rfl) (hK _ w rfl (Below.refl _ _)))
          · exact fun a w hR hd hk K hK => yes (want_g rfl rfl (hd 6 _ 64 rfl rfl rfl)) (wp_callv 25 _ _ rfl _ Try.func25 rfl rfl _ (args1 (hd 7 _ 65 rfl rfl rfl)) (c1 w hR) (by rintro e w' ⟨rfl, hb⟩; exact ⟨_, rfl, hK _ w' rfl hb⟩))
          · exact fun a w hR hd hk K hK => yes (want_g rfl rfl (hd 6 _ 64 rfl rfl rfl)) (wp_load_row _ _ rfl h (get_keep (hk 7 (no_dst (by kernel_rfl))) rfl) 66 _ _ _ (t11.below hR) Try.underlying66 rfl info66 (hK _ w rfl (Below.refl _ _)))
          · exact fun a w hR hd hk K hK => yes (want_g rfl rfl (hd 6 _ 64 rfl rfl rfl)) (wp_bin _ _ _ _ _ rfl _ _ _ (hd 8 _ 66 rfl rfl rfl) (hd 9 _ 67 rfl rfl rfl) rfl (eq_same _ _ _ _) (hK _ w rfl (Below.refl _ _)))
          · exact fun a w hR hd hk K hK => yes (want_n rfl) (wp_pick _ _ _ rfl true _ (hd 6 _ 64 rfl rfl rfl) (hd 10 _ 68 rfl rfl rfl) (hK _ w rfl (Below.refl _ _)))
          · exact fun a w hR hd hk K hK => yes (want_n rfl) (wp_mv _ rfl _ (hd 11 _ 69 rfl rfl rfl) (hK _ w rfl (Below.refl _ _)))
          · exact fun a w hR hd hk K hK => yes (want_g rfl rfl (hd 12 _ 70 rfl rfl rfl)) (wp_mv _ rfl _ (get_keep (hk 9 (no_dst (by kernel_rfl))) rfl) (hK _ w rfl (Below.refl _ _)))
          · exact fun a w hR hd hk K hK => yes (want_g rfl rfl (hd 12 _ 70 rfl rfl rfl)) (wp_callv 25 _ _ rfl _ Try.func25 rfl rfl _ (args1 (hd 13 _ 71 rfl rfl rfl)) (c2 w hR) (by rintro e w' ⟨rfl, hb⟩; exact ⟨_, rfl, hK _ w' rfl hb⟩))
          · exact fun a w hR hd hk K hK => yes (want_g rfl rfl (hd 12 _ 70 rfl rfl rfl)) (wp_load_row _ _ rfl h (get_keep (hk 7 (no_dst (by kernel_rfl))) rfl) 66 _ _ _ (t11.below hR) Try.underlying66 rfl info66 (hK _ w rfl (Below.refl _ _)))
          · exact fun a w hR hd hk K hK => yes (want_g rfl rfl (hd 12 _ 70 rfl rfl rfl)) (wp_bin _ _ _ _ _ rfl _ _ _ (hd 14 _ 72 rfl rfl rfl) (hd 15 _ 73 rfl rfl rfl) rfl (eq_same _ _ _ _) (hK _ w rfl (Below.refl _ _)))
          · exact fun a w hR hd hk K hK => yes (want_n rfl) (wp_pick _ _ _ rfl true _ (hd 12 _ 70 rfl rfl rfl) (hd 16 _ 74 rfl rfl rfl) (hK _ w rfl (Below.refl _ _)))
          · exact fun a w hR hd hk K hK => yes (want_n rfl) (wp_mv _ rfl _ (hd 17 _ 75 rfl rfl rfl) (hK _ w rfl (Below.refl _ _)))
          · exact fun a w hR hd hk K hK => yes (want_g rfl rfl (hd 18 _ 76 rfl rfl rfl)) (wp_mv _ rfl _ (get_keep (hk 10 (no_dst (by kernel_rfl))) rfl) (hK _ w rfl (Below.refl _ _)))
          · exact fun a w hR hd hk K hK => yes (want_g rfl rfl (hd 18 _ 76 rfl rfl rfl)) (wp_callv 25 _ _ rfl _ Try.func25 rfl rfl _ (args1 (hd 19 _ 77 rfl rfl rfl)) (c3 w hR) (by rintro e w' ⟨rfl, hb⟩; exact ⟨_, rfl, hK _ w' rfl hb⟩))
          · exact fun a w hR hd hk K hK => yes (want_g rfl rfl (hd 18 _ 76 rfl rfl rfl)) (wp_load_row _ _ rfl g (get_keep (hk 4 (no_dst (by kernel_rfl))) rfl) 66 _ _ _ (f11.below hR) Try.underlying66 rfl info66 (hK _ w rfl (Below.refl _ _)))
          · exact fun a w hR hd hk K hK => yes (want_g rfl rfl (hd 18 _ 76 rfl rfl rfl)) (wp_bin _ _ _ _ _ rfl _ _ _ (hd 20 _ 78 rfl rfl rfl) (hd 21 _ 79 rfl rfl rfl) rfl (eq_same _ _ _ _) (hK _ w rfl (Below.refl _ _)))
          · exact fun a w hR hd hk K hK => yes (want_n rfl) (wp_pick _ _ _ rfl true _ (hd 18 _ 76 rfl rfl rfl) (hd 22 _ 80 rfl rfl rfl) (hK _ w rfl (Below.refl _ _)))
          · exact fun a w hR hd hk K hK => yes (want_n rfl) (wp_mv _ rfl _ (hd 23 _ 81 rfl rfl rfl) (hK _ w rfl (Below.refl _ _)))
          · exact fun a w hR hd hk K hK => yes (want_g rfl rfl (hd 24 _ 82 rfl rfl rfl)) (wp_mv _ rfl _ (get_keep (hk 3 (no_dst (by kernel_rfl))) rfl) (hK _ w rfl (Below.refl _ _)))
          · exact fun a w hR hd hk K hK => yes (want_g rfl rfl (hd 24 _ 82 rfl rfl rfl)) (wp_callv 25 _ _ rfl _ Try.func25 rfl rfl _ (args1 (hd 25 _ 83 rfl rfl rfl)) (c4 w hR) (by rintro e w' ⟨rfl, hb⟩; exact ⟨_, rfl, hK _ w' rfl hb⟩))
          · exact fun a w hR hd hk K hK => yes (want_g rfl rfl (hd 24 _ 82 rfl rfl rfl)) (wp_load_row _ _ rfl h (get_keep (hk 7 (no_dst (by kernel_rfl))) rfl) 66 _ _ _ (t11.below hR) Try.underlying66 rfl info66 (hK _ w rfl (Below.refl _ _)))
          · exact fun a w hR hd hk K hK => yes (want_g rfl rfl (hd 24 _ 82 rfl rfl rfl)) (wp_bin _ _ _ _ _ rfl _ _ _ (hd 26 _ 84 rfl rfl rfl) (hd 27 _ 85 rfl rfl rfl) rfl (eq_same _ _ _ _) (hK _ w rfl (Below.refl _ _)))
          · exact fun a w hR hd hk K hK => yes (want_n rfl) (wp_pick _ _ _ rfl true _ (hd 24 _ 82 rfl rfl rfl) (hd 28 _ 86 rfl rfl rfl) (hK _ w rfl (Below.refl _ _)))
          · exact fun a w hR hd hk K hK => yes (want_n rfl) (wp_mv _ rfl _ (hd 29 _ 87 rfl rfl rfl) (hK _ w rfl (Below.refl _ _)))
          · exact fun a w hR hd hk K hK => yes (want_g rfl rfl (hd 30 _ 88 rfl rfl rfl)) (wp_callv 20 _ _ rfl _ Try.func20 rfl rfl #[] args0 (awake_any w) (by rintro e w' ⟨rfl, hb⟩; exact ⟨_, rfl, hK _ w' rfl hb⟩))
          · exact fun a w hR hd hk K hK => yes (want_n rfl) (wp_pick _ _ _ rfl true _ (hd 30 _ 88 rfl rfl rfl) (hd 31 _ 89 rfl rfl rfl) (hK _ w rfl (Below.refl _ _)))
          · exact fun a w hR hd hk K hK => yes (want_n rfl) (wp_as _ rfl _ (hd 32 _ 90 rfl rfl rfl) (hK _ w rfl (Below.refl _ _)))
        · intro a w12 hdf hsz hkp hval hR12
          obtain ⟨f, hf⟩ : ∃ f, f = fun d => a.tmps.getD d undef := ⟨_, rfl⟩
          have h2 : f 2 = .bool true := by rw [hf]; exact hval 33 _ 2 rfl rfl
          have hfa := act_filled hdf hsz hkp
          rw [← hf] at hfa
          rw [hfa]
          clear hdf hsz hkp hval hfa hf
          clear a
          simp only [fillAll, List.set_cons_zero, List.set_cons_succ, h2]
          have b12 := bnext b11 hR12
          clear h2 hR12 b11 c1 c2 c3 c4
          go_wp2
          go_ret
          exact ⟨rfl, b12⟩

end Go.Proofs.Ytpngnmogjmdmhaa
