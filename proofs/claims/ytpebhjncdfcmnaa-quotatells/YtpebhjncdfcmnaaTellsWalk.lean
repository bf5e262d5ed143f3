/- QuotaTells: all calls answer as the document defines. -/
import Derived.Test.YtpebhjncdfcmnaaRmay
import Derived.Test.YtpebhjncdfcmnaaCfg
import Derived.Test.YtpebhjncdfcmnaaWithin
namespace Go.Proofs.Ytpebhjncdfcmnaa
open Go.RowKit
set_option linter.unusedVariables false

theorem CfgIn.below {w w' : World} {ca pa aa qa : Option Addr} {cn cc pn pc ak az qk qc : Nat} {I : List Int} {M : List (Prt × List ByteArray)} {A : List Acc} {Q : List Qu} (h : CfgIn w ca pa aa qa cn cc pn pc ak az qk qc I M A Q) (hb : Below w.heap.size w w') : CfgIn w' ca pa aa qa cn cc pn pc ak az qk qc I M A Q :=
  ⟨h.il, h.iat.below hb, h.ib, h.ml, h.mat.below hb, h.mb, h.min.below hb, h.al, h.aat.below hb, h.ale, h.ab, h.asz, h.ql, h.qat.below hb, h.qle, h.qb, h.qsz⟩
theorem cVal_cnt {A : List Acc} {Q : List Qu} {L L' : List Job} (h1 : ∀ n, cntP (onP A n) L' = cntP (onP A n) L) (n : ByteArray) : cVal A Q L' n = cVal A Q L n := by unfold cVal; rw [h1]
theorem qVal_cnt {A : List Acc} {Q : List Qu} {L L' : List Job} (h1 : ∀ n, cntP (inP n) L' = cntP (inP n) L) (n : ByteArray) : qVal A Q L' n = qVal A Q L n ∧ qNum A Q L' n = qNum A Q L n := by unfold qVal qNum; rw [h1]; exact ⟨rfl, rfl⟩

def pv3 (ca pa aa qa : Option Addr) (cn cc pn pc ak az qk qc : Nat) (pol : Int) (ca2 pa2 aa2 qa2 : Option Addr) (cc2 pc2 az2 qc2 : Nat) (a la : Option Addr) (k c lc g3 g5 g7 : Nat) (s : Spc) (X E X2 N2 E2 Y : Int) (C : Bool) : List Value := [.int .i64 X, .int .i64 X, .bool false, .bool false, .int .i64 E, .int .i64 E, .bool false, .bool false, .bool false, .int .i64 X2, .int .i64 X2, .bool false, .bool false, .bool false, .int .i64 N2, .int .i64 N2, .bool false, .bool false, .bool false, .int .i64 E2, .int .i64 E2, .bool false, .bool false, .bool false, .agg #[.slice ca2 cn cc2, .slice pa2 pn pc2, .slice aa2 ak az2, .slice qa2 qk qc2, .int .u8 pol], .bool C, .agg #[.slice ca cn cc, .slice pa pn pc, .slice aa ak az, .slice qa qk qc, .int .u8 pol], .bool C, .bool false, .bool false, .bool false, .agg #[.slice ca2 cn cc2, .slice pa2 pn pc2, .slice aa2 ak az2, .slice qa2 qk qc2, .int .u8 pol], .slice la k lc, .agg (sc s).toArray, .int .i64 Y, .agg #[.slice ca cn cc, .slice pa pn pc, .slice aa ak az, .slice qa qk qc, .int .u8 pol], .slice a k c, .agg (sc s).toArray, .int .i64 Y, .bool false, .bool false]

set_option maxRecDepth 100000 in
set_option maxHeartbeats 3000000 in
theorem tells_any (ca pa aa qa : Option Addr) (cn cc pn pc ak az qk qc : Nat) (pol : Int) (I : List Int) (M : List (Prt × List ByteArray)) (A : List Acc) (Q : List Qu) (a : Option Addr) (k c : Nat) (MJ : List (Job × List Dp)) (s : Spc) (w : World) (hin : CfgIn w ca pa aa qa cn cc pn pc ak az qk qc I M A Q) (hn : MJ.length = k) (hl : k ≤ 4611686018427387904) (hat : JAt w a (MJ.map (·.1))) (hJin : JIn w MJ) :
    Calls Try.prog 3 #[.agg #[.slice ca cn cc, .slice pa pn pc, .slice aa ak az, .slice qa qk qc, .int .u8 pol], .slice a k c, .agg (sc s).toArray] w fun e w' => e = .returned (.bool true) ∧ Below w.heap.size w w' := by
  obtain ⟨W0, hW0⟩ : ∃ W0, W0 = (w.alloc (.cells #[.slice ca cn cc, .slice pa pn pc, .slice aa ak az, .slice qa qk qc, .int .u8 pol] 28)).alloc (.cells (sc s).toArray 32) := ⟨_, rfl⟩
  have bl0 := below_lit w (.cells #[.slice ca cn cc, .slice pa pn pc, .slice aa ak az, .slice qa qk qc, .int .u8 pol] 28)
  have bl1 := below_lit (w.alloc (.cells #[.slice ca cn cc, .slice pa pn pc, .slice aa ak az, .slice qa qk qc, .int .u8 pol] 28)) (.cells (sc s).toArray 32)
  have bl := bnext bl0 bl1
  have cl := range_below (lit_range w 28 [.slice ca cn cc, .slice pa pn pc, .slice aa ak az, .slice qa qk qc, .int .u8 pol]) bl1
  have y0 := cl 0 _ rfl
  have y1 := cl 1 _ rfl
  have y2 := cl 2 _ rfl
  have y3 := cl 3 _ rfl
  have y4 := cl 4 _ rfl
  simp only [Nat.zero_add] at y0 y1 y2 y3 y4
  have hsp := lit_range (w.alloc (.cells #[.slice ca cn cc, .slice pa pn pc, .slice aa ak az, .slice qa qk qc, .int .u8 pol] 28)) 32 (sc s)
  rw [size_lit] at hsp
  have u0 := hsp 0 (.string s.user) rfl
  have u1 := hsp 1 (.string s.acct) rfl
  have u2 := hsp 2 (.string s.qos) rfl
  have u3 := hsp 3 (.string s.part) rfl
  have u4 := hsp 4 (.int .i64 s.nodes) rfl
  have u5 := hsp 5 (.int .i64 s.cores) rfl
  have u6 := hsp 6 (.int .i64 s.lim) rfl
  have u7 := hsp 7 (.slice s.da s.dn s.dc) rfl
  simp only [Nat.zero_add] at u0 u1 u2 u3 u4 u5 u6 u7
  rw [← hW0] at bl y0 y1 y2 y3 y4 hsp
  clear bl0 bl1 cl
  have hmn : (MJ.map (·.1)).length = k := by rw [List.length_map]; exact hn
  have kW := wild_any s W0
  have kWs := fun wx (hb : Below w.heap.size w wx) => wilds_any a k c (MJ.map (·.1)) wx hmn (by omega) (hat.below hb)
  by_cases h300 : 300 < k
  · have d300 : decide ((300 : Int) < (k : Int)) = true := decide_eq_true (by omega)
    clear kW kWs hsp u0 u1 u2 u3 u4 u5 u6 u7
    replace hmn := hid hmn
    replace hin := hid hin
    replace hn := hid hn
    replace hat := hid hat
    replace hJin := hid hJin
    go_enter Try.func3, Try.ntmps3
    go_wp2_with fail
    rw [← hW0]
    have DD := bl
    refine (awake_any _).mono ?_
    rintro e wz ⟨rfl, hbz⟩
    have Dz := bnext DD hbz
    go_wp2
    go_ret
    exact ⟨rfl, Dz⟩
  have d300 : decide ((300 : Int) < (k : Int)) = false := decide_eq_false (by omega)
  cases hw1 : wildB s with
  | true =>
    rw [hw1] at kW
    clear kWs hsp
    replace hmn := hid hmn
    replace hw1 := hid hw1
    replace hin := hid hin
    replace hn := hid hn
    replace hat := hid hat
    replace hJin := hid hJin
    go_enter Try.func3, Try.ntmps3
    go_wp2_with fail
    rw [← hW0]
    refine kW.mono ?_
    rintro e w1 ⟨rfl, hb1⟩
    have DD := bnext bl hb1
    go_wp2_with fail
    refine (awake_any _).mono ?_
    rintro e wz ⟨rfl, hbz⟩
    have Dz := bnext DD hbz
    go_wp2
    go_ret
    exact ⟨rfl, Dz⟩
  | false =>
    rw [hw1] at kW
    replace hw1 := hid hw1
    cases hw2 : wildsB (MJ.map (·.1)) with
    | true =>
      rw [hw2] at kWs
      clear hsp
      replace hmn := hid hmn
      replace hw2 := hid hw2
      replace hin := hid hin
      replace hn := hid hn
      replace hat := hid hat
      replace hJin := hid hJin
      go_enter Try.func3, Try.ntmps3
      go_wp2_with fail
      rw [← hW0]
      refine kW.mono ?_
      rintro e w1 ⟨rfl, hb1⟩
      have D1 := bnext bl hb1
      go_wp2_with fail
      refine (kWs _ D1).mono ?_
      rintro e w2 ⟨rfl, hb2⟩
      have DD := bnext D1 hb2
      go_wp2_with fail
      refine (awake_any _).mono ?_
      rintro e wz ⟨rfl, hbz⟩
      have Dz := bnext DD hbz
      go_wp2
      go_ret
      exact ⟨rfl, Dz⟩
    | false =>
      rw [hw2] at kWs
      replace hw2 := hid hw2
      by_cases ha60 : 60 < ak
      · have da60 : decide ((60 : Int) < (ak : Int)) = true := decide_eq_true (by omega)
        clear hsp
        replace hmn := hid hmn
        replace hin := hid hin
        replace hn := hid hn
        replace hat := hid hat
        replace hJin := hid hJin
        go_enter Try.func3, Try.ntmps3
        go_wp2_with fail
        rw [← hW0]
        refine kW.mono ?_
        rintro e w1 ⟨rfl, hb1⟩
        have D1 := bnext bl hb1
        go_wp2_with fail
        refine (kWs _ D1).mono ?_
        rintro e w2 ⟨rfl, hb2⟩
        have DD := bnext D1 hb2
        replace y2 := stay (bnext hb1 hb2) y2
        go_wp2_with fail
        refine (awake_any _).mono ?_
        rintro e wz ⟨rfl, hbz⟩
        have Dz := bnext DD hbz
        go_wp2
        go_ret
        exact ⟨rfl, Dz⟩
      have da60 : decide ((60 : Int) < (ak : Int)) = false := decide_eq_false (by omega)
      by_cases hq60 : 60 < qk
      · have dq60 : decide ((60 : Int) < (qk : Int)) = true := decide_eq_true (by omega)
        clear hsp
        replace hmn := hid hmn
        replace hin := hid hin
        replace hn := hid hn
        replace hat := hid hat
        replace hJin := hid hJin
        go_enter Try.func3, Try.ntmps3
        go_wp2_with fail
        rw [← hW0]
        refine kW.mono ?_
        rintro e w1 ⟨rfl, hb1⟩
        have D1 := bnext bl hb1
        go_wp2_with fail
        refine (kWs _ D1).mono ?_
        rintro e w2 ⟨rfl, hb2⟩
        have DD := bnext D1 hb2
        replace y2 := stay (bnext hb1 hb2) y2
        replace y3 := stay (bnext hb1 hb2) y3
        go_wp2_with fail
        refine (awake_any _).mono ?_
        rintro e wz ⟨rfl, hbz⟩
        have Dz := bnext DD hbz
        go_wp2
        go_ret
        exact ⟨rfl, Dz⟩
      have dq60 : decide ((60 : Int) < (qk : Int)) = false := decide_eq_false (by omega)
      have kCf := fun wx (hb : Below w.heap.size w wx) => copycfg ca pa aa qa cn cc pn pc ak az qk qc pol I M A Q wx (hin.below hb) (by omega)
      have kCj := fun wx (hb : Below w.heap.size w wx) => copyJ a k c MJ wx hn (by omega) (hat.below hb) (hJin.below hb)
      have rC := fun wx (hb : Below w.heap.size w wx) => rcores_any ca pa aa qa cn cc pn pc ak az qk qc pol A Q a k c (MJ.map (·.1)) s.acct wx hin.al hin.ale hin.ql hin.qle (by omega) (by omega) hin.asz hin.qsz (hin.aat.below hb) (hin.qat.below hb) hmn (by omega) (hat.below hb)
      have rQ := fun wx (hb : Below w.heap.size w wx) => rqos_any ca pa aa qa cn cc pn pc ak az qk qc pol A Q a k c (MJ.map (·.1)) s.qos wx hin.al hin.ale hin.ql hin.qle (by omega) (by omega) hin.asz hin.qsz (hin.aat.below hb) (hin.qat.below hb) hmn (by omega) (hat.below hb)
      have rR := fun wx (hb : Below w.heap.size w wx) => rconf_any ca pa aa qa cn cc pn pc ak az qk qc pol A Q wx hin.al hin.ale hin.ql hin.qle (by omega) (by omega) hin.asz hin.qsz (hin.aat.below hb) (hin.qat.below hb)
      have rM := fun wx (hb : Below w.heap.size w wx) => rmay_any ca pa aa qa cn cc pn pc ak az qk qc pol A Q a k c (MJ.map (·.1)) s wx hin.al hin.ale hin.ql hin.qle (by omega) (by omega) hin.asz hin.qsz (hin.aat.below hb) (hin.qat.below hb) hmn (by omega) (hat.below hb)
      replace hmn := hid hmn
      replace kCf := hid kCf
      replace kCj := hid kCj
      replace rC := hid rC
      replace rQ := hid rQ
      replace rR := hid rR
      replace rM := hid rM
      replace hsp := hid hsp
      replace hin := hid hin
      replace hn := hid hn
      replace hat := hid hat
      replace hJin := hid hJin
      go_enter Try.func3, Try.ntmps3
      go_wp2_with fail
      rw [← hW0]
      replace hW0 := hid hW0
      refine kW.mono ?_
      rintro e w1 ⟨rfl, hb1⟩
      have D1 := bnext bl hb1
      clear kW u0 u1 u2 u3 u4 u5 u6 u7
      go_wp2_with fail
      refine (kWs _ D1).mono ?_
      rintro e w2 ⟨rfl, hb2⟩
      have D2 := bnext D1 hb2
      have b2 := bnext hb1 hb2
      clear kWs
      replace y0 := stay b2 y0
      replace y1 := stay b2 y1
      replace y2 := stay b2 y2
      replace y3 := stay b2 y3
      replace y4 := stay b2 y4
      replace hsp := hid (range_below hsp.out b2)
      go_wp2_with fail
      refine (kCf.out _ D2).mono ?_
      rintro e w3 ⟨ca2, pa2, aa2, qa2, cc2, pc2, az2, qc2, M', rfl, hC3, hb3⟩
      have D3 := bnext D2 hb3
      replace hC3 := hid hC3
      go_wp2_with fail
      refine (kCj.out _ D3).mono ?_
      rintro e w4 ⟨la, lc, MJ', rfl, hlc, hJO, hre, hb4⟩
      have D4 := bnext D3 hb4
      have bl5 := below_lit w4 (.cells #[.slice ca2 cn cc2, .slice pa2 pn pc2, .slice aa2 ak az2, .slice qa2 qk qc2, .int .u8 pol] 28)
      have D5 := bnext D4 bl5
      have hC5 := hid ((hC3.out.below hb4).below bl5)
      have hL5 := hid ((JO.jat hJO).below bl5)
      have hd5 := hid (fun p hp => (DOwn.dat (hJO.dep p hp)).below bl5)
      have hl5 := hid (show (MJ'.map (·.1)).length = k by rw [List.length_map, reJ_len hre]; exact hn.out)
      have h1 : ∀ n, cntP (onP A n) (MJ'.map (·.1)) = cntP (onP A n) (MJ.map (·.1)) := fun n => cntP_re (on_re A n) hre
      have h2 : ∀ n, cntP (inP n) (MJ'.map (·.1)) = cntP (inP n) (MJ.map (·.1)) := fun n => cntP_re (in_re n) hre
      have ec := hid (cVal_cnt (Q := Q) h1 s.acct)
      have eq1 := hid (qVal_cnt (A := A) (Q := Q) h2 s.qos)
      have em := hid (may_cnt (Q := Q) h1 h2 s)
      clear h1 h2
      have b5 := bnext hb3 (bnext hb4 bl5)
      have p := lit_range w4 28 [.slice ca2 cn cc2, .slice pa2 pn pc2, .slice aa2 ak az2, .slice qa2 qk qc2, .int .u8 pol]
      have p0 := p 0 _ rfl
      have p1 := p 1 _ rfl
      have p2 := p 2 _ rfl
      have p3 := p 3 _ rfl
      have p4 := p 4 _ rfl
      simp only [Nat.zero_add] at p0 p1 p2 p3 p4
      clear p
      obtain ⟨W5, hW5⟩ : ∃ W5, W5 = w4.alloc (.cells #[.slice ca2 cn cc2, .slice pa2 pn pc2, .slice aa2 ak az2, .slice qa2 qk qc2, .int .u8 pol] 28) := ⟨_, rfl⟩
      rw [← hW5] at bl5 D5 hC5 hL5 hd5 b5 p0 p1 p2 p3 p4
      replace hJO := hid hJO
      replace hre := hid hre
      have kC := hid (fun wx (hb : Below W5.heap.size W5 wx) => cores_any ca2 pa2 aa2 qa2 cn cc2 pn pc2 ak az2 qk qc2 pol A Q la k lc (MJ'.map (·.1)) s.acct wx hin.out.al hC5.out.2.2.2.2.2.1 hin.out.ql (hC5.out.2.2.2.2.1.below hb) (hC5.out.2.2.2.2.2.2.1.below hb) hl5.out (by omega) (hL5.out.below hb))
      have kQ := hid (fun wx (hb : Below W5.heap.size W5 wx) => qos_any ca2 pa2 aa2 qa2 cn cc2 pn pc2 ak az2 qk qc2 pol A Q la k lc (MJ'.map (·.1)) s.qos wx hin.out.al hC5.out.2.2.2.2.2.1 hin.out.ql (hC5.out.2.2.2.2.1.below hb) (hC5.out.2.2.2.2.2.2.1.below hb) hl5.out (by omega) (hL5.out.below hb))
      have kR := hid (fun wx (hb : Below W5.heap.size W5 wx) => conf_any ca2 pa2 aa2 qa2 cn cc2 pn pc2 ak az2 qk qc2 pol A Q wx hin.out.al hC5.out.2.2.2.2.2.1 hin.out.ql (hC5.out.2.2.2.2.1.below hb) (hC5.out.2.2.2.2.2.2.1.below hb))
      have kM := hid (fun wx (hb : Below W5.heap.size W5 wx) => may_any ca2 pa2 aa2 qa2 cn cc2 pn pc2 ak az2 qk qc2 pol A Q la k lc (MJ'.map (·.1)) s wx hin.out.al hC5.out.2.2.2.2.2.1 hin.out.ql (hC5.out.2.2.2.2.1.below hb) (hC5.out.2.2.2.2.2.2.1.below hb) hl5.out (by omega) (hL5.out.below hb))
      rw [ec.out] at kC
      rw [eq1.out.1, eq1.out.2] at kQ
      rw [em.out] at kM
      generalize cVal A Q (MJ.map (·.1)) s.acct = X at *
      generalize cErr A Q s.acct = E at *
      generalize qVal A Q (MJ.map (·.1)) s.qos = X2 at *
      generalize qNum A Q (MJ.map (·.1)) s.qos = N2 at *
      generalize qErr A Q s.qos = E2 at *
      generalize mayP A Q (MJ.map (·.1)) s = Y at *
      generalize confB A Q = C at *
      replace y0 := stay b5 y0
      replace y1 := stay b5 y1
      replace y2 := stay b5 y2
      replace y3 := stay b5 y3
      replace y4 := stay b5 y4
      replace hsp := hid (range_below hsp.out b5)
      have s1 := hsp.out 1 (.string s.acct) rfl
      have s2 := hsp.out 2 (.string s.qos) rfl
      simp only [Nat.zero_add] at s1 s2
      have s1u := s1
      rw [hW5] at s1u
      go_wp2_with fail
      rw [← hW5]
      clear s1u
      replace hW5 := hid hW5
      refine (kC.out _ (Below.refl _ _)).mono ?_
      rintro e w6 ⟨rfl, hb6⟩
      replace y0 := stay hb6 y0
      replace y1 := stay hb6 y1
      replace y2 := stay hb6 y2
      replace y3 := stay hb6 y3
      replace y4 := stay hb6 y4
      replace p0 := stay hb6 p0
      replace p1 := stay hb6 p1
      replace p2 := stay hb6 p2
      replace p3 := stay hb6 p3
      replace p4 := stay hb6 p4
      replace s1 := stay hb6 s1
      replace s2 := stay hb6 s2
      have D6 := bnext D5 hb6
      go_wp2_with fail
      refine (rC.out _ D6).mono ?_
      rintro e w7 ⟨rfl, hb7⟩
      replace y0 := stay hb7 y0
      replace y1 := stay hb7 y1
      replace y2 := stay hb7 y2
      replace y3 := stay hb7 y3
      replace y4 := stay hb7 y4
      replace p0 := stay hb7 p0
      replace p1 := stay hb7 p1
      replace p2 := stay hb7 p2
      replace p3 := stay hb7 p3
      replace p4 := stay hb7 p4
      replace s1 := stay hb7 s1
      replace s2 := stay hb7 s2
      have D7 := bnext D6 hb7
      have d7 := bnext hb6 hb7
      go_wp2_with fail
      refine (kQ.out _ d7).mono ?_
      rintro e w8 ⟨rfl, hb8⟩
      replace y0 := stay hb8 y0
      replace y1 := stay hb8 y1
      replace y2 := stay hb8 y2
      replace y3 := stay hb8 y3
      replace y4 := stay hb8 y4
      replace p0 := stay hb8 p0
      replace p1 := stay hb8 p1
      replace p2 := stay hb8 p2
      replace p3 := stay hb8 p3
      replace p4 := stay hb8 p4
      replace s1 := stay hb8 s1
      replace s2 := stay hb8 s2
      have D8 := bnext D7 hb8
      have d8 := bnext d7 hb8
      go_wp2_with fail
      refine (rQ.out _ D8).mono ?_
      rintro e w9 ⟨rfl, hb9⟩
      replace y0 := stay hb9 y0
      replace y1 := stay hb9 y1
      replace y2 := stay hb9 y2
      replace y3 := stay hb9 y3
      replace y4 := stay hb9 y4
      replace p0 := stay hb9 p0
      replace p1 := stay hb9 p1
      replace p2 := stay hb9 p2
      replace p3 := stay hb9 p3
      replace p4 := stay hb9 p4
      replace s1 := stay hb9 s1
      replace s2 := stay hb9 s2
      have D9 := bnext D8 hb9
      have d9 := bnext d8 hb9
      clear s1 s2 kC kQ rC rQ
      replace hsp := hid (range_below hsp.out d9)
      have kR1 := hid (fun wx (h : Below w9.heap.size w9 wx) => kR.out wx (bnext d9 h))
      have kR2 := hid (fun wx (h : Below w9.heap.size w9 wx) => rR.out wx (bnext D9 h))
      have kM1 := hid (fun wx (h : Below w9.heap.size w9 wx) => kM.out wx (bnext d9 h))
      have kM2 := hid (fun wx (h : Below w9.heap.size w9 wx) => rM.out wx (bnext D9 h))
      clear kR rR kM rM
      replace y0 := hid y0
      replace y1 := hid y1
      replace y2 := hid y2
      replace y3 := hid y3
      replace y4 := hid y4
      replace p0 := hid p0
      replace p1 := hid p1
      replace p2 := hid p2
      replace p3 := hid p3
      replace p4 := hid p4
      go_wp2_with fail
      replace kR1 := kR1.out
      replace kR2 := kR2.out
      replace kM1 := kM1.out
      replace kM2 := kM2.out
      replace hsp := hsp.out
      replace y0 := y0.out
      replace y1 := y1.out
      replace y2 := y2.out
      replace y3 := y3.out
      replace y4 := y4.out
      replace p0 := p0.out
      replace p1 := p1.out
      replace p2 := p2.out
      replace p3 := p3.out
      replace p4 := p4.out
      generalize hg5 : w.heap.size + 1 = g5 at hsp ⊢
      generalize hg3 : w.heap.size = g3 at y0 y1 y2 y3 y4 ⊢
      generalize hg7 : w4.heap.size = g7 at p0 p1 p2 p3 p4 ⊢
      refine wp_region_drawn (Rel := fun w w' => Below w.heap.size w w') (Pr := PrV (pv3 ca pa aa qa cn cc pn pc ak az qk qc pol ca2 pa2 aa2 qa2 cc2 pc2 az2 qc2 a la k c lc g3 g5 g7 s X E X2 N2 E2 Y C) [] (fun _ _ _ => True)) (by kernel_rfl) (by kernel_rfl) (drew_below _) bel_tr (PrV.mono (fun _ _ _ _ _ _ => trivial)) ?_ ?_
      · refine ⟨?_, ?_, ?_, ?_, ?_, ?_, ?_, ?_, ?_, ?_, ?_, ?_, ?_, ?_, ?_, ?_, ?_, ?_, ?_, ?_, ?_, ?_, ?_, ?_, ?_, ?_, ?_, ?_, ?_, ?_, ?_, ?_, ?_, ?_, ?_, ?_, ?_, ?_, ?_, ?_, ?_, trivial⟩
        · exact fun ac w hR hd hk K hK => yes (want_n rfl) (wp_mv _ rfl _ (get_keep (hk 9 (no_dst (by kernel_rfl))) rfl) (hK _ w (PrV.is rfl rfl) (Below.refl _ _)))
        · exact fun ac w hR hd hk K hK => yes (want_n rfl) (wp_mv _ rfl _ (get_keep (hk 11 (no_dst (by kernel_rfl))) rfl) (hK _ w (PrV.is rfl rfl) (Below.refl _ _)))
        · intro ac w hR hd hk K hK
          have e81 : ac.tmps[81]?.getD undef = (.int .i64 X : Value) := slot ((hd 0 _ 81 rfl rfl rfl).val rfl)
          have e82 : ac.tmps[82]?.getD undef = (.int .i64 X : Value) := slot ((hd 1 _ 82 rfl rfl rfl).val rfl)
          refine yes (want_n rfl) ?_
          have hv := hid (hK (.bool false) w (PrV.is rfl rfl) (Below.refl _ _))
          go_simp
          refine kq hv.out ?_
          simp
        · exact fun ac w hR hd hk K hK => yes (want_n rfl) (wp_mv _ rfl _ ((hd 2 _ 83 rfl rfl rfl).val rfl) (hK _ w (PrV.is rfl rfl) (Below.refl _ _)))
        · exact fun ac w hR hd hk K hK => yes (want_g rfl rfl ((hd 3 _ 84 rfl rfl rfl).val rfl)) (wp_mv _ rfl _ (get_keep (hk 10 (no_dst (by kernel_rfl))) rfl) (hK _ w (PrV.is rfl rfl) (Below.refl _ _)))
        · exact fun ac w hR hd hk K hK => yes (want_g rfl rfl ((hd 3 _ 84 rfl rfl rfl).val rfl)) (wp_mv _ rfl _ (get_keep (hk 12 (no_dst (by kernel_rfl))) rfl) (hK _ w (PrV.is rfl rfl) (Below.refl _ _)))
        · intro ac w hR hd hk K hK
          have e85 : ac.tmps[85]?.getD undef = (.int .i64 E : Value) := slot ((hd 4 _ 85 rfl rfl rfl).val rfl)
          have e86 : ac.tmps[86]?.getD undef = (.int .i64 E : Value) := slot ((hd 5 _ 86 rfl rfl rfl).val rfl)
          refine yes (want_g rfl rfl ((hd 3 _ 84 rfl rfl rfl).val rfl)) ?_
          have hv := hid (hK (.bool false) w (PrV.is rfl rfl) (Below.refl _ _))
          go_simp
          refine kq hv.out ?_
          simp
        · exact fun ac w hR hd hk K hK => yes (want_n rfl) (wp_pick _ _ _ rfl false _ ((hd 3 _ 84 rfl rfl rfl).val rfl) ((hd 6 _ 87 rfl rfl rfl).val rfl) (hK _ w (PrV.is rfl rfl) (Below.refl _ _)))
        · exact fun ac w hR hd hk K hK => yes (want_n rfl) (wp_mv _ rfl _ ((hd 7 _ 88 rfl rfl rfl).val rfl) (hK _ w (PrV.is rfl rfl) (Below.refl _ _)))
        · exact fun ac w hR hd hk K hK => yes (want_g rfl rfl ((hd 8 _ 89 rfl rfl rfl).val rfl)) (wp_mv _ rfl _ (get_keep (hk 13 (no_dst (by kernel_rfl))) rfl) (hK _ w (PrV.is rfl rfl) (Below.refl _ _)))
        · exact fun ac w hR hd hk K hK => yes (want_g rfl rfl ((hd 8 _ 89 rfl rfl rfl).val rfl)) (wp_mv _ rfl _ (get_keep (hk 16 (no_dst (by kernel_rfl))) rfl) (hK _ w (PrV.is rfl rfl) (Below.refl _ _)))
        · intro ac w hR hd hk K hK
          have e90 : ac.tmps[90]?.getD undef = (.int .i64 X2 : Value) := slot ((hd 9 _ 90 rfl rfl rfl).val rfl)
          have e91 : ac.tmps[91]?.getD undef = (.int .i64 X2 : Value) := slot ((hd 10 _ 91 rfl rfl rfl).val rfl)
          refine yes (want_g rfl rfl ((hd 8 _ 89 rfl rfl rfl).val rfl)) ?_
          have hv := hid (hK (.bool false) w (PrV.is rfl rfl) (Below.refl _ _))
          go_simp
          refine kq hv.out ?_
          simp
        · exact fun ac w hR hd hk K hK => yes (want_n rfl) (wp_pick _ _ _ rfl false _ ((hd 8 _ 89 rfl rfl rfl).val rfl) ((hd 11 _ 92 rfl rfl rfl).val rfl) (hK _ w (PrV.is rfl rfl) (Below.refl _ _)))
        · exact fun ac w hR hd hk K hK => yes (want_n rfl) (wp_mv _ rfl _ ((hd 12 _ 93 rfl rfl rfl).val rfl) (hK _ w (PrV.is rfl rfl) (Below.refl _ _)))
        · exact fun ac w hR hd hk K hK => yes (want_g rfl rfl ((hd 13 _ 94 rfl rfl rfl).val rfl)) (wp_mv _ rfl _ (get_keep (hk 14 (no_dst (by kernel_rfl))) rfl) (hK _ w (PrV.is rfl rfl) (Below.refl _ _)))
        · exact fun ac w hR hd hk K hK => yes (want_g rfl rfl ((hd 13 _ 94 rfl rfl rfl).val rfl)) (wp_mv _ rfl _ (get_keep (hk 17 (no_dst (by kernel_rfl))) rfl) (hK _ w (PrV.is rfl rfl) (Below.refl _ _)))
        · intro ac w hR hd hk K hK
          have e95 : ac.tmps[95]?.getD undef = (.int .i64 N2 : Value) := slot ((hd 14 _ 95 rfl rfl rfl).val rfl)
          have e96 : ac.tmps[96]?.getD undef = (.int .i64 N2 : Value) := slot ((hd 15 _ 96 rfl rfl rfl).val rfl)
          refine yes (want_g rfl rfl ((hd 13 _ 94 rfl rfl rfl).val rfl)) ?_
          have hv := hid (hK (.bool false) w (PrV.is rfl rfl) (Below.refl _ _))
          go_simp
          refine kq hv.out ?_
          simp
        · exact fun ac w hR hd hk K hK => yes (want_n rfl) (wp_pick _ _ _ rfl false _ ((hd 13 _ 94 rfl rfl rfl).val rfl) ((hd 16 _ 97 rfl rfl rfl).val rfl) (hK _ w (PrV.is rfl rfl) (Below.refl _ _)))
        · exact fun ac w hR hd hk K hK => yes (want_n rfl) (wp_mv _ rfl _ ((hd 17 _ 98 rfl rfl rfl).val rfl) (hK _ w (PrV.is rfl rfl) (Below.refl _ _)))
        · exact fun ac w hR hd hk K hK => yes (want_g rfl rfl ((hd 18 _ 99 rfl rfl rfl).val rfl)) (wp_mv _ rfl _ (get_keep (hk 15 (no_dst (by kernel_rfl))) rfl) (hK _ w (PrV.is rfl rfl) (Below.refl _ _)))
        · exact fun ac w hR hd hk K hK => yes (want_g rfl rfl ((hd 18 _ 99 rfl rfl rfl).val rfl)) (wp_mv _ rfl _ (get_keep (hk 18 (no_dst (by kernel_rfl))) rfl) (hK _ w (PrV.is rfl rfl) (Below.refl _ _)))
        · intro ac w hR hd hk K hK
          have e100 : ac.tmps[100]?.getD undef = (.int .i64 E2 : Value) := slot ((hd 19 _ 100 rfl rfl rfl).val rfl)
          have e101 : ac.tmps[101]?.getD undef = (.int .i64 E2 : Value) := slot ((hd 20 _ 101 rfl rfl rfl).val rfl)
          refine yes (want_g rfl rfl ((hd 18 _ 99 rfl rfl rfl).val rfl)) ?_
          have hv := hid (hK (.bool false) w (PrV.is rfl rfl) (Below.refl _ _))
          go_simp
          refine kq hv.out ?_
          simp
        · exact fun ac w hR hd hk K hK => yes (want_n rfl) (wp_pick _ _ _ rfl false _ ((hd 18 _ 99 rfl rfl rfl).val rfl) ((hd 21 _ 102 rfl rfl rfl).val rfl) (hK _ w (PrV.is rfl rfl) (Below.refl _ _)))
        · exact fun ac w hR hd hk K hK => yes (want_n rfl) (wp_mv _ rfl _ ((hd 22 _ 103 rfl rfl rfl).val rfl) (hK _ w (PrV.is rfl rfl) (Below.refl _ _)))
        · intro ac w hR hd hk K hK
          have e7 : ac.tmps[7]?.getD undef = (.pointer (some ⟨g7, 0, none⟩) : Value) := slot (get_keep (hk 7 (no_dst (by kernel_rfl))) rfl)
          have x0 := stay hR p0
          have x1 := stay hR p1
          have x2 := stay hR p2
          have x3 := stay hR p3
          have x4 := stay hR p4
          refine yes (want_g rfl rfl ((hd 23 _ 104 rfl rfl rfl).val rfl)) ?_
          have hv := hid (hK (.agg #[.slice ca2 cn cc2, .slice pa2 pn pc2, .slice aa2 ak az2, .slice qa2 qk qc2, .int .u8 pol]) w (PrV.is rfl rfl) (Below.refl _ _))
          go_simp
          refine kq hv.out ?_
          rfl
        · exact fun ac w hR hd hk K hK => yes (want_g rfl rfl ((hd 23 _ 104 rfl rfl rfl).val rfl)) (wp_callv 15 _ _ rfl _ Try.func15 rfl rfl _ (args1 ((hd 24 _ 105 rfl rfl rfl).val rfl)) (kR1 w hR) (by rintro e w' ⟨rfl, hb⟩; exact ⟨_, rfl, hK _ w' (PrV.is rfl rfl) (hb)⟩))
        · intro ac w hR hd hk K hK
          have e3 : ac.tmps[3]?.getD undef = (.pointer (some ⟨g3, 0, none⟩) : Value) := slot (get_keep (hk 3 (no_dst (by kernel_rfl))) rfl)
          have x0 := stay hR y0
          have x1 := stay hR y1
          have x2 := stay hR y2
          have x3 := stay hR y3
          have x4 := stay hR y4
          refine yes (want_g rfl rfl ((hd 23 _ 104 rfl rfl rfl).val rfl)) ?_
          have hv := hid (hK (.agg #[.slice ca cn cc, .slice pa pn pc, .slice aa ak az, .slice qa qk qc, .int .u8 pol]) w (PrV.is rfl rfl) (Below.refl _ _))
          go_simp
          refine kq hv.out ?_
          rfl
        · exact fun ac w hR hd hk K hK => yes (want_g rfl rfl ((hd 23 _ 104 rfl rfl rfl).val rfl)) (wp_callv 16 _ _ rfl _ Try.func16 rfl rfl _ (args1 ((hd 26 _ 107 rfl rfl rfl).val rfl)) (kR2 w hR) (by rintro e w' ⟨rfl, hb⟩; exact ⟨_, rfl, hK _ w' (PrV.is rfl rfl) (hb)⟩))
        · intro ac w hR hd hk K hK
          have e106 : ac.tmps[106]?.getD undef = (.bool C : Value) := slot ((hd 25 _ 106 rfl rfl rfl).val rfl)
          have e108 : ac.tmps[108]?.getD undef = (.bool C : Value) := slot ((hd 27 _ 108 rfl rfl rfl).val rfl)
          refine yes (want_g rfl rfl ((hd 23 _ 104 rfl rfl rfl).val rfl)) ?_
          have hv := hid (hK (.bool false) w (PrV.is rfl rfl) (Below.refl _ _))
          go_simp
          refine kq hv.out ?_
          simp
        · exact fun ac w hR hd hk K hK => yes (want_n rfl) (wp_pick _ _ _ rfl false _ ((hd 23 _ 104 rfl rfl rfl).val rfl) ((hd 28 _ 109 rfl rfl rfl).val rfl) (hK _ w (PrV.is rfl rfl) (Below.refl _ _)))
        · exact fun ac w hR hd hk K hK => yes (want_n rfl) (wp_mv _ rfl _ ((hd 29 _ 110 rfl rfl rfl).val rfl) (hK _ w (PrV.is rfl rfl) (Below.refl _ _)))
        · intro ac w hR hd hk K hK
          have e7 : ac.tmps[7]?.getD undef = (.pointer (some ⟨g7, 0, none⟩) : Value) := slot (get_keep (hk 7 (no_dst (by kernel_rfl))) rfl)
          have x0 := stay hR p0
          have x1 := stay hR p1
          have x2 := stay hR p2
          have x3 := stay hR p3
          have x4 := stay hR p4
          refine yes (want_g rfl rfl ((hd 30 _ 111 rfl rfl rfl).val rfl)) ?_
          have hv := hid (hK (.agg #[.slice ca2 cn cc2, .slice pa2 pn pc2, .slice aa2 ak az2, .slice qa2 qk qc2, .int .u8 pol]) w (PrV.is rfl rfl) (Below.refl _ _))
          go_simp
          refine kq hv.out ?_
          rfl
        · exact fun ac w hR hd hk K hK => yes (want_g rfl rfl ((hd 30 _ 111 rfl rfl rfl).val rfl)) (wp_mv _ rfl _ (get_keep (hk 8 (no_dst (by kernel_rfl))) rfl) (hK _ w (PrV.is rfl rfl) (Below.refl _ _)))
        · exact fun ac w hR hd hk K hK => yes (want_g rfl rfl ((hd 30 _ 111 rfl rfl rfl).val rfl)) (wp_load_mid 32 _ rfl g5 0 (get_keep (hk 5 (no_dst (by kernel_rfl))) rfl) (sc s) _ (range_below hsp hR) Try.underlying32 rfl (by kernel_rfl) (hK _ w (PrV.is rfl rfl) (Below.refl _ _)))
        · exact fun ac w hR hd hk K hK => yes (want_g rfl rfl ((hd 30 _ 111 rfl rfl rfl).val rfl)) (wp_callv 17 _ _ rfl _ Try.func17 rfl rfl _ (args3 ((hd 31 _ 112 rfl rfl rfl).val rfl) ((hd 32 _ 113 rfl rfl rfl).val rfl) ((hd 33 _ 114 rfl rfl rfl).val rfl)) (kM1 w hR) (by rintro e w' ⟨rfl, hb⟩; exact ⟨_, rfl, hK _ w' (PrV.is rfl rfl) (hb)⟩))
        · intro ac w hR hd hk K hK
          have e3 : ac.tmps[3]?.getD undef = (.pointer (some ⟨g3, 0, none⟩) : Value) := slot (get_keep (hk 3 (no_dst (by kernel_rfl))) rfl)
          have x0 := stay hR y0
          have x1 := stay hR y1
          have x2 := stay hR y2
          have x3 := stay hR y3
          have x4 := stay hR y4
          refine yes (want_g rfl rfl ((hd 30 _ 111 rfl rfl rfl).val rfl)) ?_
          have hv := hid (hK (.agg #[.slice ca cn cc, .slice pa pn pc, .slice aa ak az, .slice qa qk qc, .int .u8 pol]) w (PrV.is rfl rfl) (Below.refl _ _))
          go_simp
          refine kq hv.out ?_
          rfl
        · exact fun ac w hR hd hk K hK => yes (want_g rfl rfl ((hd 30 _ 111 rfl rfl rfl).val rfl)) (wp_mv _ rfl _ (get_keep (hk 1 (no_dst (by kernel_rfl))) rfl) (hK _ w (PrV.is rfl rfl) (Below.refl _ _)))
        · exact fun ac w hR hd hk K hK => yes (want_g rfl rfl ((hd 30 _ 111 rfl rfl rfl).val rfl)) (wp_load_mid 32 _ rfl g5 0 (get_keep (hk 5 (no_dst (by kernel_rfl))) rfl) (sc s) _ (range_below hsp hR) Try.underlying32 rfl (by kernel_rfl) (hK _ w (PrV.is rfl rfl) (Below.refl _ _)))
        · exact fun ac w hR hd hk K hK => yes (want_g rfl rfl ((hd 30 _ 111 rfl rfl rfl).val rfl)) (wp_callv 18 _ _ rfl _ Try.func18 rfl rfl _ (args3 ((hd 35 _ 116 rfl rfl rfl).val rfl) ((hd 36 _ 117 rfl rfl rfl).val rfl) ((hd 37 _ 118 rfl rfl rfl).val rfl)) (kM2 w hR) (by rintro e w' ⟨rfl, hb⟩; exact ⟨_, rfl, hK _ w' (PrV.is rfl rfl) (hb)⟩))
        · intro ac w hR hd hk K hK
          have e115 : ac.tmps[115]?.getD undef = (.int .i64 Y : Value) := slot ((hd 34 _ 115 rfl rfl rfl).val rfl)
          have e119 : ac.tmps[119]?.getD undef = (.int .i64 Y : Value) := slot ((hd 38 _ 119 rfl rfl rfl).val rfl)
          refine yes (want_g rfl rfl ((hd 30 _ 111 rfl rfl rfl).val rfl)) ?_
          have hv := hid (hK (.bool false) w (PrV.is rfl rfl) (Below.refl _ _))
          go_simp
          refine kq hv.out ?_
          simp
        · exact fun ac w hR hd hk K hK => yes (want_n rfl) (wp_pick _ _ _ rfl false _ ((hd 30 _ 111 rfl rfl rfl).val rfl) ((hd 39 _ 120 rfl rfl rfl).val rfl) (hK _ w (PrV.is rfl rfl) (Below.refl _ _)))
      · intro a wa hdf hsz hkp hval hRw
        obtain ⟨f, hf⟩ : ∃ f, f = fun d => a.tmps.getD d undef := ⟨_, rfl⟩
        have h121 : f 121 = .bool false := by rw [hf]; exact (hval 40 _ 121 rfl rfl).val rfl
        have hfa := act_filled hdf hsz hkp
        rw [← hf] at hfa
        rw [hfa]
        clear hdf hsz hkp hval hfa hf
        clear a
        simp only [fillAll, List.set_cons_zero, List.set_cons_succ, h121]
        clear h121
        have Da := bnext D9 hRw
        have da := bnext d9 hRw
        replace y0 := stay hRw y0
        replace y1 := stay hRw y1
        replace y2 := stay hRw y2
        replace y3 := stay hRw y3
        replace y4 := stay hRw y4
        replace p0 := stay hRw p0
        replace p1 := stay hRw p1
        replace p2 := stay hRw p2
        replace p3 := stay hRw p3
        replace p4 := stay hRw p4
        clear kR1 kR2 kM1 kM2 hsp
        have kSc := samecfg ca pa aa qa cn cc pn pc ak az qk qc pol I M A Q ca2 pa2 aa2 qa2 cc2 pc2 az2 qc2 M' wa (hin.out.below Da) (hC5.out.below da)
        have kSj := fun wx (h : Below wa.heap.size wa wx) => sameJ la a k lc c MJ MJ' wx hn.out (by omega) hre.out (hL5.out.below (bnext da h)) (hat.out.below (bnext Da h)) (fun p hp => (hd5.out p hp).below (bnext da h)) (hJin.out.below (bnext Da h))
        subst hg3
        go_wp2_with fail
        refine kSc.mono ?_
        rintro e wb ⟨rfl, hbb⟩
        have Db := bnext Da hbb
        clear kSc
        go_wp2_with fail
        refine (kSj _ hbb).mono ?_
        rintro e wc1 ⟨rfl, hbc⟩
        have DD := bnext Db hbc
        go_wp2_with fail
        refine (awake_any _).mono ?_
        rintro e wz ⟨rfl, hbz⟩
        have Dz := bnext DD hbz
        go_wp2
        go_ret
        exact ⟨rfl, Dz⟩

end Go.Proofs.Ytpebhjncdfcmnaa
