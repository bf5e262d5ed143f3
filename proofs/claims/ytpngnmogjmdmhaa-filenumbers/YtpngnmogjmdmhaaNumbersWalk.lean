/- FileNumbers' Go text returns true. -/
import Derived.Test.YtpngnmogjmdmhaaNumBase
namespace Go.Proofs.Ytpngnmogjmdmhaa
open Go.RowKit

set_option maxRecDepth 100000 in
set_option maxHeartbeats 16000000 in
theorem numbers_any (w : World) : Calls Try.prog 3 #[] w fun e w' => e = .returned (.bool true) ∧ Below w.heap.size w w' := by
  have kc := const_run
  have bz := Below.refl w.heap.size w
  go_enter Try.func3, Try.ntmps3
  go_wp2_with fail
  refine (new_any _).mono ?_
  rintro e w1 ⟨pd, x1, rfl, h1, ht1, hr1, hb1⟩
  have sd : Sole w.heap.size w1 pd x1 Dsk.new := ⟨h1, fun k e => Nat.le_trans bz.size (ht1 k e), fun k e => absurd e (hr1 k), Dsk.new_inv⟩
  have b1 := bnext bz hb1
  clear h1 ht1 hr1 hb1
  have bl := below_lit w1 (.cells #[.int .u8 97, .int .u8 98, .int .u8 99] 5 (3, 4))
  have sl := sd.below bl
  have bb := bnext b1 bl
  go_wp2_with fail
  refine (append_sole w.heap.size pd x1 Dsk.new N1 0 0 _ 3 3 [97, 98, 99] _ sl bb.size (by decide) rfl (by omega) (at_mark w1 [97, 98, 99] _ _ rfl) (fun ad e ht => by cases e; have := sd.is.1.turn_lt _ ht; simp at this) (by decide) rfl).mono ?_
  rintro e w2 ⟨rfl, x2, t2, g2, k2⟩
  have b2 := bb.trans (k2.below sl.turn bb.size)
  clear sd sl bb bl
  have sd := t2
  go_wp2_with fail
  refine (sync_sole w.heap.size pd x2 N1 N2 0 _ sd b2.size (by decide) (by decide) rfl).mono ?_
  rintro e w3 ⟨rfl, x3, t3, g3, k3⟩
  have b3 := b2.trans (k3.below sd.turn b2.size)
  replace sd := t3
  go_wp2_with fail
  refine (cut_sole w.heap.size pd x3 N2 N3 0 1 0 _ sd b3.size (by decide) (by decide) rfl).mono ?_
  rintro e w4 ⟨rfl, x4, t4, g4, k4⟩
  have b4 := b3.trans (k4.below sd.turn b3.size)
  replace sd := t4
  have bl := below_lit w4 (.cells #[.int .u8 120] 5 (1, 2))
  have sl := sd.below bl
  have bb := bnext b4 bl
  go_wp2_with fail
  refine (append_sole w.heap.size pd x4 N3 N4 1 0 _ 1 1 [120] _ sl bb.size (by decide) rfl (by omega) (at_mark w4 [120] _ _ rfl) (fun ad e ht => by cases e; have := sd.is.1.turn_lt _ ht; simp at this) (by decide) rfl).mono ?_
  rintro e w5 ⟨rfl, x5, t5, g5, k5⟩
  have b5 := bb.trans (k5.below sl.turn bb.size)
  clear sd sl bb bl
  have sd := t5
  go_wp2_with fail
  refine (copy_sole w.heap.size pd x5 N4 _ sd b5.size (by decide)).mono ?_
  rintro e w6 ⟨px, x6, rfl, Sx, Ax, Tx, Rx, hb1⟩
  have b6 := bnext b5 hb1
  replace sd := sd.below hb1
  clear hb1
  have Sx0 := Sx
  go_wp2_with fail
  refine (copy_sole w.heap.size pd x5 N4 _ sd b6.size (by decide)).mono ?_
  rintro e w7 ⟨py, x7, rfl, Sy, Ay, Ty, Ry, hb1⟩
  have b7 := bnext b6 hb1
  replace sd := sd.below hb1
  replace Sx := Sx.below hb1
  clear hb1
  have Axy := apart_later Sx0 Ax Ty Ry
  clear Sx0
  go_wp2_with fail
  refine (crash_sole w.heap.size px x6 N4 NX 1 9 0 _ Sx b7.size (by decide) (by decide) rfl).mono ?_
  rintro e w8 ⟨rfl, x8, t8, g8, k8⟩
  have b8 := b7.trans (k8.below Sx.turn b7.size)
  replace sd := Ax.sole k8 sd
  replace Sx := t8
  have Axy' := Axy.keep g8 Sy.is
  replace Sy := Axy.sole k8 Sy
  go_wp2_with fail
  refine (crash_sole w.heap.size py x7 N4 NY 0 9 0 _ Sy b8.size (by decide) (by decide) rfl).mono ?_
  rintro e w9 ⟨rfl, x9, t9, g9, k9⟩
  have b9 := b8.trans (k9.below Sy.turn b8.size)
  replace sd := Ay.sole k9 sd
  replace Sx := Axy'.symm.sole k9 Sx
  replace Sy := t9
  clear Ax Ay Axy Axy' Tx Ty Rx Ry
  go_wp2_with fail
  refine (read_sole w.heap.size px x8 NX 0 0 [97] 1 _ Sx (by decide) (by decide) rfl).mono ?_
  rintro e w10 ⟨aa, ca, rfl, oa, hb1⟩
  have b10 := bnext b9 hb1
  replace sd := sd.below hb1
  replace Sx := Sx.below hb1
  replace Sy := Sy.below hb1
  have ata := oa.at
  clear hb1 oa
  go_wp2_with fail
  refine (read_sole w.heap.size px x8 NX 1 0 [120] 1 _ Sx (by decide) (by decide) rfl).mono ?_
  rintro e w11 ⟨ab, cb, rfl, ob, hb1⟩
  have b11 := bnext b10 hb1
  replace sd := sd.below hb1
  replace Sx := Sx.below hb1
  replace Sy := Sy.below hb1
  replace ata := ata.below hb1
  have atb := ob.at
  clear hb1 ob
  go_wp2_with fail
  refine (read_sole w.heap.size py x9 NY 0 0 [97, 98, 99] 3 _ Sy (by decide) (by decide) rfl).mono ?_
  rintro e w12 ⟨ac, cc, rfl, oc, hb1⟩
  have b12 := bnext b11 hb1
  replace sd := sd.below hb1
  replace Sx := Sx.below hb1
  replace Sy := Sy.below hb1
  replace ata := ata.below hb1
  replace atb := atb.below hb1
  have atc := oc.at
  clear hb1 oc
  go_wp2_with fail
  refine (read_sole w.heap.size py x9 NY 1 0 [] 0 _ Sy (by decide) (by decide) rfl).mono ?_
  rintro e w13 ⟨az, cz, rfl, oz, hb1⟩
  have b13 := bnext b12 hb1
  replace sd := sd.below hb1
  replace Sx := Sx.below hb1
  replace Sy := Sy.below hb1
  replace ata := ata.below hb1
  replace atb := atb.below hb1
  replace atc := atc.below hb1
  clear hb1 oz
  have cva := conv_run w13 aa [97] 1 ca rfl ata
  rw [show (([97] : List UInt8).toArray) = #[97] from rfl] at cva
  have cvb := conv_run w13 ab [120] 1 cb rfl atb
  rw [show (([120] : List UInt8).toArray) = #[120] from rfl] at cvb
  have cvc := conv_run w13 ac [97, 98, 99] 3 cc rfl atc
  rw [show (([97, 98, 99] : List UInt8).toArray) = #[97, 98, 99] from rfl] at cvc
  have hp : (N4.ops.length : Int) = 2 := by decide
  go_wp2_with (go_at_call 16; refine (pending_any pd _ N4 _ sd.is).mono ?_; rintro e wp ⟨rfl, rfl⟩; rw [hp])
  clear cva cvb cvc ata atb atc sd Sx Sy hp
  go_wp2_with fail
  refine (new_any _).mono ?_
  rintro e w14 ⟨pw, x14, rfl, h1, ht1, hr1, hb1⟩
  have sw : Sole w.heap.size w14 pw x14 Dsk.new := ⟨h1, fun k e => Nat.le_trans b13.size (ht1 k e), fun k e => absurd e (hr1 k), Dsk.new_inv⟩
  have b14 := bnext b13 hb1
  clear h1 ht1 hr1 hb1
  go_wp2_with fail
  refine (arm_sole w.heap.size pw x14 Dsk.new W1 1 0 _ sw b14.size (by decide) (by decide) rfl).mono ?_
  rintro e w15 ⟨rfl, x15, t15, g15, k15⟩
  have b15 := b14.trans (k15.below sw.turn b14.size)
  replace sw := t15
  have bl := below_lit w15 (.cells #[.int .u8 113] 5 (1, 2))
  have sl := sw.below bl
  have bb := bnext b15 bl
  go_wp2_with fail
  refine (append_sole w.heap.size pw x15 W1 W2 2 0 _ 1 1 [113] _ sl bb.size (by decide) rfl (by omega) (at_mark w15 [113] _ _ rfl) (fun ad e ht => by cases e; have := sw.is.1.turn_lt _ ht; simp at this) (by decide) rfl).mono ?_
  rintro e w16 ⟨rfl, x16, t16, g16, k16⟩
  have b16 := bb.trans (k16.below sl.turn bb.size)
  clear sw sl bb bl
  have sw := t16
  go_wp2_with fail
  refine (sync_sole w.heap.size pw x16 W2 W3 6 _ sw b16.size (by decide) (by decide) rfl).mono ?_
  rintro e w17 ⟨rfl, x17, t17, g17, k17⟩
  have b17 := b16.trans (k17.below sw.turn b16.size)
  replace sw := t17
  go_wp2_with fail
  refine (read_sole w.heap.size pw x17 W3 2 6 [] 0 _ sw (by decide) (by decide) rfl).mono ?_
  rintro e w18 ⟨al, cl, rfl, ol, hb1⟩
  have b18 := bnext b17 hb1
  replace sw := sw.below hb1
  clear hb1 ol
  go_wp2_with fail
  refine (durable_sole w.heap.size pw x17 W3 2 0 [] 0 _ sw (by decide) (by decide) rfl).mono ?_
  rintro e w19 ⟨au, cu, rfl, ou, hb1⟩
  have b19 := bnext b18 hb1
  replace sw := sw.below hb1
  clear hb1 ou
  go_wp2_with fail
  refine (crash_sole w.heap.size pw x17 W3 W4 9 0 0 _ sw b19.size (by decide) (by decide) rfl).mono ?_
  rintro e w20 ⟨rfl, x20, t20, g20, k20⟩
  have b20 := b19.trans (k20.below sw.turn b19.size)
  replace sw := t20
  go_wp2_with fail
  refine (read_sole w.heap.size pw x20 W4 2 0 [113] 1 _ sw (by decide) (by decide) rfl).mono ?_
  rintro e w21 ⟨av, cv, rfl, ov, hb1⟩
  have b21 := bnext b20 hb1
  replace sw := sw.below hb1
  have atv := ov.at
  clear hb1 ov
  have cvv := conv_run w21 av [113] 1 cv rfl atv
  rw [show (([113] : List UInt8).toArray) = #[113] from rfl] at cvv
  go_wp2_with fail
  refine (fail_sole w.heap.size pw x20 W4 W5 0 4 0 _ sw b21.size (by decide) (by decide) rfl).mono ?_
  rintro e w22 ⟨rfl, x22, t22, g22, k22⟩
  have b22 := b21.trans (k22.below sw.turn b21.size)
  replace sw := t22
  clear cvv atv
  go_wp2_with fail
  refine (sync_sole w.heap.size pw x22 W5 W6 4 _ sw b22.size (by decide) (by decide) rfl).mono ?_
  rintro e w23 ⟨rfl, x23, t23, g23, k23⟩
  have b23 := b22.trans (k23.below sw.turn b22.size)
  replace sw := t23
  go_wp2_with fail
  refine (sync_sole w.heap.size pw x23 W6 W7 0 _ sw b23.size (by decide) (by decide) rfl).mono ?_
  rintro e w24 ⟨rfl, x24, t24, g24, k24⟩
  have b24 := b23.trans (k24.below sw.turn b23.size)
  replace sw := t24
  go_wp2_with fail
  refine (append_sole w.heap.size pw x24 W7 W7 3 2 none 0 0 [] _ sw b24.size (by decide) rfl (by omega) (fun h => absurd rfl h) (fun ad e => by cases e) (by decide) rfl).mono ?_
  rintro e w25 ⟨rfl, x25, t25, g25, k25⟩
  have b25 := b24.trans (k25.below sw.turn b24.size)
  replace sw := t25
  go_wp2_with fail
  refine (append_sole w.heap.size pw x25 W7 W7 (-1) 2 none 0 0 [] _ sw b25.size (by decide) rfl (by omega) (fun h => absurd rfl h) (fun ad e => by cases e) (by decide) rfl).mono ?_
  rintro e w26 ⟨rfl, x26, t26, g26, k26⟩
  have b26 := b25.trans (k26.below sw.turn b25.size)
  replace sw := t26
  go_wp2_with fail
  refine (cut_sole w.heap.size pw x26 W7 W7 0 1 2 _ sw b26.size (by decide) (by decide) rfl).mono ?_
  rintro e w27 ⟨rfl, x27, t27, g27, k27⟩
  have b27 := b26.trans (k27.below sw.turn b26.size)
  replace sw := t27
  go_wp2_with fail
  refine (cut_sole w.heap.size pw x27 W7 W7 2 (-1) 2 _ sw b27.size (by decide) (by decide) rfl).mono ?_
  rintro e w28 ⟨rfl, x28, t28, g28, k28⟩
  have b28 := b27.trans (k28.below sw.turn b27.size)
  replace sw := t28
  go_wp2_with fail
  refine (cut_sole w.heap.size pw x28 W7 W8 2 1 0 _ sw b28.size (by decide) (by decide) rfl).mono ?_
  rintro e w29 ⟨rfl, x29, t29, g29, k29⟩
  have b29 := b28.trans (k29.below sw.turn b28.size)
  replace sw := t29
  go_wp2_with fail
  refine (fail_sole w.heap.size pw x29 W8 W8 0 2 2 _ sw b29.size (by decide) (by decide) rfl).mono ?_
  rintro e w30 ⟨rfl, x30, t30, g30, k30⟩
  have b30 := b29.trans (k30.below sw.turn b29.size)
  replace sw := t30
  go_wp2_with fail
  refine (fail_sole w.heap.size pw x30 W8 W8 (-1) 4 2 _ sw b30.size (by decide) (by decide) rfl).mono ?_
  rintro e w31 ⟨rfl, x31, t31, g31, k31⟩
  have b31 := b30.trans (k31.below sw.turn b30.size)
  replace sw := t31
  go_wp2_with fail
  refine (arm_sole w.heap.size pw x31 W8 W8 (-1) 2 _ sw b31.size (by decide) (by decide) rfl).mono ?_
  rintro e w32 ⟨rfl, x32, t32, g32, k32⟩
  have b32 := b31.trans (k32.below sw.turn b31.size)
  replace sw := t32
  go_wp2_with fail
  refine (crash_sole w.heap.size pw x32 W8 W8 (-1) 0 2 _ sw b32.size (by decide) (by decide) rfl).mono ?_
  rintro e w33 ⟨rfl, x33, t33, g33, k33⟩
  have b33 := b32.trans (k33.below sw.turn b32.size)
  replace sw := t33
  go_wp2_with fail
  refine (crash_sole w.heap.size pw x33 W8 W8 0 (-1) 2 _ sw b33.size (by decide) (by decide) rfl).mono ?_
  rintro e w34 ⟨rfl, x34, t34, g34, k34⟩
  have b34 := b33.trans (k34.below sw.turn b33.size)
  replace sw := t34
  go_wp2_with (at_make; refine wpList_zeros _ rfl (.const (.int .i64 1048576)) (.const (.int .i64 1048576)) rfl 1048576 1048576 rfl rfl rfl (by omega) ?_; intro w35 Z hZ hrow hbg; replace hZ := hid hZ)
  have hgw : ¬ Turn pw x34 w34.heap.size := fun e => by have := sw.is.1.turn_lt _ e; omega
  have b35 := bnext b34 hbg
  replace sw := sw.below hbg
  have hap := append_sole w.heap.size pw x34 W8 (W9 Z) 1 0 (some ⟨w34.heap.size, 0, none⟩) 1048576 1048576 Z _ sw b35.size (by decide) hZ.out (by omega) hrow.at (fun ad e => by cases e; exact hgw) (app9 Z hZ.out).1 (app9 Z hZ.out).2
  go_wp2_with fail
  refine hap.mono ?_
  rintro e w36 ⟨rfl, x36, t36, g36, k36⟩
  have b36 := b35.trans (k36.below sw.turn b35.size)
  clear hap hrow hgw hbg
  replace sw := t36
  have bl := below_lit w36 (.cells #[.int .u8 1] 5)
  have sl := sw.below bl
  have bb := bnext b36 bl
  go_wp2_with fail
  refine (append_sole w.heap.size pw x36 (W9 Z) (W9 Z) 1 5 _ 1 1 [1] _ sl bb.size (by rw [few9]; omega) rfl (by omega) (at_lit w36 [1] _ rfl) (fun ad e ht => by cases e; have := sw.is.1.turn_lt _ ht; simp at this) (app9f Z hZ.out).1 (app9f Z hZ.out).2).mono ?_
  rintro e w37 ⟨rfl, x37, t37, g37, k37⟩
  have b37 := bb.trans (k37.below sl.turn bb.size)
  clear sw sl bb bl
  have sw := t37
  go_wp2_with fail
  refine (append_sole w.heap.size pw x37 (W9 Z) (W10 Z) 1 0 none 0 0 [] _ sw b37.size (by rw [few9]; omega) rfl (by omega) (fun h => absurd rfl h) (fun ad e => by cases e) (app10 Z hZ.out).1 (app10 Z hZ.out).2).mono ?_
  rintro e w38 ⟨rfl, x38, t38, g38, k38⟩
  have b38 := b37.trans (k38.below sw.turn b37.size)
  replace sw := t38
  go_wp2_with fail
  refine (cut_sole w.heap.size pw x38 (W10 Z) (W11 Z) 1 0 0 _ sw b38.size (by rw [few10]; omega) (cut11 Z).1 (cut11 Z).2).mono ?_
  rintro e w39 ⟨rfl, x39, t39, g39, k39⟩
  have b39 := b38.trans (k39.below sw.turn b38.size)
  replace sw := t39
  have bl := below_lit w39 (.cells #[.int .u8 1] 5)
  have sl := sw.below bl
  have bb := bnext b39 bl
  go_wp2_with fail
  refine (append_sole w.heap.size pw x39 (W11 Z) (W12 Z) 1 0 _ 1 1 [1] _ sl bb.size (by rw [few11]; omega) rfl (by omega) (at_lit w39 [1] _ rfl) (fun ad e ht => by cases e; have := sw.is.1.turn_lt _ ht; simp at this) (app12 Z).1 (app12 Z).2).mono ?_
  rintro e w40 ⟨rfl, x40, t40, g40, k40⟩
  have b40 := bb.trans (k40.below sl.turn bb.size)
  clear sw sl bb bl
  have sw := t40
  go_wp2_with fail
  refine (arm_sole w.heap.size pw x40 (W12 Z) (W13 Z) 0 0 _ sw b40.size (by decide) (by decide) rfl).mono ?_
  rintro e w41 ⟨rfl, x41, t41, g41, k41⟩
  have b41 := b40.trans (k41.below sw.turn b40.size)
  replace sw := t41
  go_wp2_with fail
  refine (fail_sole w.heap.size pw x41 (W13 Z) (W14 Z) 0 4 0 _ sw b41.size (by decide) (by decide) rfl).mono ?_
  rintro e w42 ⟨rfl, x42, t42, g42, k42⟩
  have b42 := b41.trans (k42.below sw.turn b41.size)
  replace sw := t42
  go_wp2_with fail
  refine (sync_sole w.heap.size pw x42 (W14 Z) (W15 Z) 6 _ sw b42.size (by rw [few14]; omega) (errs14 Z) rfl).mono ?_
  rintro e w43 ⟨rfl, x43, t43, g43, k43⟩
  have b43 := b42.trans (k43.below sw.turn b42.size)
  replace sw := t43
  go_wp2_with fail
  refine (crash_sole w.heap.size pw x43 (W15 Z) (W16 Z) 0 0 0 _ sw b43.size (Nat.le_trans (few15 Z) (by omega)) (by decide) rfl).mono ?_
  rintro e w44 ⟨rfl, x44, t44, g44, k44⟩
  have b44 := b43.trans (k44.below sw.turn b43.size)
  replace sw := t44
  go_wp2_with fail
  refine (sync_sole w.heap.size pw x44 (W16 Z) (W17 Z) 0 _ sw b44.size (by rw [few16]; omega) (errs16 Z) rfl).mono ?_
  rintro e w45 ⟨rfl, x45, t45, g45, k45⟩
  have b45 := b44.trans (k45.below sw.turn b44.size)
  replace sw := t45
  go_wp2_with fail
  refine (read_sole w.heap.size pw x45 (W17 Z) 3 2 [] 0 _ sw rfl rfl rfl).mono ?_
  rintro e w46 ⟨ar, cr, rfl, or, hb1⟩
  have b46 := bnext b45 hb1
  replace sw := sw.below hb1
  clear hb1 or
  go_wp2_with fail
  refine (durable_sole w.heap.size pw x45 (W17 Z) (-1) 2 [] 0 _ sw rfl rfl rfl).mono ?_
  rintro e w47 ⟨aq, cq, rfl, oq, hb1⟩
  have b47 := bnext b46 hb1
  replace sw := sw.below hb1
  clear hb1 oq
  go_wp2_with fail
  refine (awake_any _).mono ?_
  rintro e wl ⟨rfl, hbl⟩
  go_wp2
  go_ret
  exact ⟨rfl, bnext b47 hbl⟩
end Go.Proofs.Ytpngnmogjmdmhaa
