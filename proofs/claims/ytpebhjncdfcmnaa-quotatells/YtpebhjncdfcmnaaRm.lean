/- The document's own: how many cores run for an account, and for a quality. -/
import Derived.Test.YtpebhjncdfcmnaaRq
import Derived.Test.YtpebhjncdfcmnaaHoldP
namespace Go.Proofs.Ytpebhjncdfcmnaa
open Go.RowKit
set_option linter.unusedVariables false

theorem on_path (A : List Acc) (n : ByteArray) : (fun s : Spc => hasB (pathP A s.acct) n) = onP A n := by
  funext s
  cases h : onP A n s with
  | true => exact has_is.2 (on_is.1 h)
  | false =>
    rw [has_no]
    intro h2
    rw [on_is.2 h2] at h
    cases h

def pv12 (g3 : Nat) (aa : Option Addr) (ak az b o k c j : Nat) (sx : ByteArray) (E : Int) : List Value := [.pointer (some ⟨g3, 2, none⟩), .slice aa ak az, .slice (some ⟨b, o, none⟩) k c, .int .i64 (j : Int), .pointer (some ⟨b, o + j * 17, none⟩), .pointer (some ⟨b, o + j * 17 + 3, none⟩), .pointer (some ⟨b, o + j * 17 + 4, none⟩), .string sx, undef, undef, undef, .int .i64 E, undef, .int .i64 E]

set_option maxRecDepth 100000 in
set_option maxHeartbeats 4000000 in
theorem rcores_any (ca pa aa qa : Option Addr) (cn cc pn pc ak az qk qc : Nat) (pol : Int) (A : List Acc) (Q : List Qu) (a : Option Addr) (k c : Nat) (L : List Job) (n : ByteArray) (w : World) (hA : A.length = ak) (hac : ak ≤ az) (hQ : Q.length = qk) (hqc : qk ≤ qc) (hal : ak ≤ 4611686018427387904) (hql : qk ≤ 4611686018427387904) (hsA : Sized A) (hsQ : ∀ x ∈ Q, x.1.size ≤ 9223372036854775807) (hatA : AAt w aa A) (hatQ : QAt w qa Q) (hn : L.length = k) (hl : k ≤ 4611686018427387904) (hat : JAt w a L) :
    Calls Try.prog 12 #[.agg #[.slice ca cn cc, .slice pa pn pc, .slice aa ak az, .slice qa qk qc, .int .u8 pol], .slice a k c, .string n] w fun e w' => e = .returned (.tuple #[.int .i64 (cVal A Q L n), .int .i64 (cErr A Q n)]) ∧ Below w.heap.size w w' := by
  obtain ⟨W0, hW0⟩ : ∃ W0, W0 = w.alloc (.cells #[.slice ca cn cc, .slice pa pn pc, .slice aa ak az, .slice qa qk qc, .int .u8 pol] 28) := ⟨_, rfl⟩
  have bl := below_lit w (.cells #[.slice ca cn cc, .slice pa pn pc, .slice aa ak az, .slice qa qk qc, .int .u8 pol] 28)
  have v2 := lit_cell w 28 #[.slice ca cn cc, .slice pa pn pc, .slice aa ak az, .slice qa qk qc, .int .u8 pol] 2 (.slice aa ak az) rfl
  have v3 := lit_cell w 28 #[.slice ca cn cc, .slice pa pn pc, .slice aa ak az, .slice qa qk qc, .int .u8 pol] 3 (.slice qa qk qc) rfl
  have kR := rconf_any ca pa aa qa cn cc pn pc ak az qk qc pol A Q _ hA hac hQ hqc hal hql hsA hsQ (hatA.below bl) (hatQ.below bl)
  rw [← hW0] at bl v2 v3 kR
  have k2 := fun wx (hb : Below w.heap.size w wx) => rfind_any aa ak az A n wx hA hal (hatA.below hb)
  cases hR : confB A Q with
  | false =>
    have e1 : cErr A Q n = 2 := by unfold cErr; rw [hR]; rfl
    have e2 : cVal A Q L n = 0 := by unfold cVal; rw [e1]; rfl
    rw [e1, e2]
    rw [hR] at kR
    replace hR := hid hR
    replace e1 := hid e1
    replace e2 := hid e2
    clear k2
    replace hA := hid hA
    replace hQ := hid hQ
    replace hatA := hid hatA
    replace hatQ := hid hatQ
    replace hsA := hid hsA
    replace hsQ := hid hsQ
    replace hn := hid hn
    replace hat := hid hat
    go_enter Try.func12, Try.ntmps12
    go_wp2_with fail
    rw [← hW0]
    refine kR.mono ?_
    rintro e w1 ⟨rfl, hb1⟩
    have D1 := bnext bl hb1
    go_wp2
    go_ret2
    exact ⟨rfl, D1⟩
  | true =>
    have hRA := (conf_is.1 hR).1
    rw [hR] at kR
    cases hf : fi A n with
    | none =>
      have e1 : cErr A Q n = 141 := by unfold cErr; rw [hR, hf]; rfl
      have e2 : cVal A Q L n = 0 := by unfold cVal; rw [e1]; rfl
      rw [e1, e2]
      rw [hf] at k2
      simp only [FRet] at k2
      replace hR := hid hR
      replace hRA := hid hRA
      replace hf := hid hf
      replace e1 := hid e1
      replace e2 := hid e2
      replace hA := hid hA
      replace hQ := hid hQ
      replace hatA := hid hatA
      replace hatQ := hid hatQ
      replace hsA := hid hsA
      replace hsQ := hid hsQ
      replace hn := hid hn
      replace hat := hid hat
      go_enter Try.func12, Try.ntmps12
      go_wp2_with fail
      rw [← hW0]
      refine kR.mono ?_
      rintro e w1 ⟨rfl, hb1⟩
      have D1 := bnext bl hb1
      replace v2 := stay hb1 v2
      go_wp2_with fail
      refine (k2 _ D1).mono ?_
      rintro e w2 ⟨rfl, rfl⟩
      go_wp2
      go_ret2
      exact ⟨rfl, D1⟩
    | some i =>
      have e1 : cErr A Q n = 0 := by unfold cErr; rw [hR, hf]; rfl
      have e2 : cVal A Q L n = (cntP (onP A n) L).1 := by unfold cVal; rw [e1]; rfl
      rw [e1, e2]
      rw [hf] at k2
      simp only [FRet] at k2
      have kP0 : ∀ sx wx, Below w.heap.size w wx → Calls Try.prog 31 #[.slice aa ak az, .string sx] wx fun e w' => ∃ ra rc, e = .returned (.tuple #[.slice ra (pathP A sx).length rc, .int .i64 (errP A sx)]) ∧ TAt w' ra (pathP A sx) ∧ Below wx.heap.size wx w' := fun sx wx hb => by
        have h := rpath_any aa ak az A sx wx hA hal hac hsA (hatA.below hb)
        have hp : (if errP A sx = 0 then pathP A sx else []) = pathP A sx := by
          by_cases he : errP A sx = 0
          · rw [if_pos he]
          · rw [if_neg he]
            cases hfs : fi A sx with
            | none => rw [path_no hfs]
            | some q => exact absurd (err_of hRA hfs) he
        rw [hp] at h
        refine h.mono ?_
        rintro e w' ⟨ra, rc, rfl, _, ho, hb2⟩
        exact ⟨ra, rc, rfl, ho.tat, hb2⟩
      have hpl : ∀ sx, (pathP A sx).length ≤ 16 := fun sx => by
        cases hfs : fi A sx with
        | none => rw [path_no hfs]; simp
        | some q =>
          have h1 := path_len hfs
          have h2 := fi_lt hfs
          have h3 := (right_is.1 hRA).2.1
          omega
      replace hR := hid hR
      replace hRA := hid hRA
      replace hf := hid hf
      replace e1 := hid e1
      replace e2 := hid e2
      replace kP0 := hid kP0
      replace hpl := hid hpl
      have hp0 := hid (on_path A n)
      generalize onP A n = p at *
      replace hA := hid hA
      replace hQ := hid hQ
      replace hatA := hid hatA
      replace hatQ := hid hatQ
      replace hsA := hid hsA
      replace hsQ := hid hsQ
      replace hn := hid hn
      replace hat := hid hat
      go_enter Try.func12, Try.ntmps12
      go_wp2_with fail
      rw [← hW0]
      replace hW0 := hid hW0
      refine kR.mono ?_
      rintro e w1 ⟨rfl, hb1⟩
      have D1 := bnext bl hb1
      replace v2 := stay hb1 v2
      clear kR
      go_wp2_with fail
      refine (k2 _ D1).mono ?_
      rintro e w2 ⟨rfl, rfl⟩
      clear k2
      replace v2 := hid v2
      go_wp2_with fail
      go_loopw [10, 11] (fun x i wr => ∃ (j Y : Nat) (X : Int), j ≤ k ∧ x = .int .i64 X ∧ i = .int .i64 (j : Int) ∧ Hid (cntP p (L.take j) = (X, Y)) ∧ Below w2.heap.size w2 wr) (fun _ i _ => k - (intOf i).toNat)
      case atStart => exact ⟨0, 0, 0, Nat.zero_le _, rfl, rfl, hid rfl, Below.refl _ _⟩
      case round =>
        obtain ⟨j, Y, X, hj, rfl, rfl, hok, hb⟩ := hrel
        have Bw := bnext D1 hb
        by_cases hlt : j < k
        · have hjL : j < L.length := by rw [hn.out]; exact hlt
          obtain ⟨b, o, e⟩ := hat.out.place (by omega)
          subst e
          have cl := hid (fun wx (h : Below w.heap.size w wx) => (hat.out.below h).range hjL)
          have hnext := hid (cnt_next (p := p) hjL)
          rw [hok.out] at hnext
          generalize jobAt L j = J at *
          have c4 := cl.out wr Bw 4 (.string J.s.acct) rfl
          rw [show o + j * 17 + 4 = o + j * 17 + 4 from rfl] at c4
          have kP := fun wx (h : Below wr.heap.size wr wx) => kP0.out J.s.acct wx (bnext Bw h)
          have y2 := stay hb v2.out
          have hjk : j < k := hlt
          have hj0 : (0 : Int) ≤ (j : Int) := by omega
          have hm := hpl.out J.s.acct
          have hpJ : Hid (p J.s = hasB (pathP A J.s.acct) n) := hid (by rw [← hp0.out])
          have hcor : Hid (cor J.s = wrap64 (J.s.nodes * J.s.cores)) := hid rfl
          generalize hTx : pathP A J.s.acct = Tx at *
          replace hTx := hid hTx
          generalize hml : Tx.length = m at *
          replace hml := hid hml
          generalize errP A J.s.acct = E at *
          replace kP := hid kP
          replace y2 := hid y2
          replace c4 := hid c4
          go_wp2_with fail
          replace kP := kP.out
          replace y2 := y2.out
          replace c4 := c4.out
          generalize J.s.acct = sx at *
          generalize hg3 : w.heap.size = g3 at y2 ⊢
          refine wp_region_drawn (Rel := fun w w' => Below w.heap.size w w') (Pr := PrV (pv12 g3 aa ak az b o k c j sx E) [8, 9, 10, 12] (fun q v w' => ∃ ra rc, v = (if q = 8 ∨ q = 9 then .tuple #[.slice ra m rc, .int .i64 E] else .slice ra m rc) ∧ TAt w' ra Tx)) (by kernel_rfl) (by kernel_rfl) (drew_below _) bel_tr (PrV.mono (fun _ _ _ _ h hb => by obtain ⟨ra, rc, e, hc⟩ := h; exact ⟨ra, rc, e, TAt.below hc hb⟩)) ?_ ?_
          · refine ⟨?_, ?_, ?_, ?_, ?_, ?_, ?_, ?_, ?_, ?_, ?_, ?_, ?_, ?_, trivial⟩
            · intro ac w hR hd hk K hK
              have e3 : ac.tmps[3]?.getD undef = (.pointer (some ⟨g3, 0, none⟩) : Value) := slot (get_keep (hk 3 (no_dst (by kernel_rfl))) rfl)
              refine yes (want_n rfl) ?_
              have hv := hid (hK (.pointer (some ⟨g3, 2, none⟩)) w (PrV.is rfl rfl) (Below.refl _ _))
              go_simp
              refine kq hv.out ?_
              rfl
            · intro ac w hR hd hk K hK
              have e33 : ac.tmps[33]?.getD undef = (.pointer (some ⟨g3, 2, none⟩) : Value) := slot ((hd 0 _ 33 rfl rfl rfl).val rfl)
              have x0 := stay hR y2
              refine yes (want_n rfl) ?_
              have hv := hid (hK (.slice aa ak az) w (PrV.is rfl rfl) (Below.refl _ _))
              go_simp
              refine kq hv.out ?_
              rfl
            · exact fun ac w hR hd hk K hK => yes (want_n rfl) (wp_mv _ rfl _ (get_keep (hk 1 (no_dst (by kernel_rfl))) rfl) (hK _ w (PrV.is rfl rfl) (Below.refl _ _)))
            · exact fun ac w hR hd hk K hK => yes (want_n rfl) (wp_mv _ rfl _ (get_keep (hk 11 (no_dst (by kernel_rfl))) rfl) (hK _ w (PrV.is rfl rfl) (Below.refl _ _)))
            · intro ac w hR hd hk K hK
              have e35 : ac.tmps[35]?.getD undef = (.slice (some ⟨b, o, none⟩) k c : Value) := slot ((hd 2 _ 35 rfl rfl rfl).val rfl)
              have e36 : ac.tmps[36]?.getD undef = (.int .i64 (j : Int) : Value) := slot ((hd 3 _ 36 rfl rfl rfl).val rfl)
              have f1 := hjk
              have f2 := hj0
              refine yes (want_n rfl) ?_
              have hv := hid (hK (.pointer (some ⟨b, o + j * 17, none⟩)) w (PrV.is rfl rfl) (Below.refl _ _))
              go_simp
              refine kq hv.out ?_
              rfl
            · intro ac w hR hd hk K hK
              have e37 : ac.tmps[37]?.getD undef = (.pointer (some ⟨b, o + j * 17, none⟩) : Value) := slot ((hd 4 _ 37 rfl rfl rfl).val rfl)
              refine yes (want_n rfl) ?_
              have hv := hid (hK (.pointer (some ⟨b, o + j * 17 + 3, none⟩)) w (PrV.is rfl rfl) (Below.refl _ _))
              go_simp
              refine kq hv.out ?_
              rfl
            · intro ac w hR hd hk K hK
              have e38 : ac.tmps[38]?.getD undef = (.pointer (some ⟨b, o + j * 17 + 3, none⟩) : Value) := slot ((hd 5 _ 38 rfl rfl rfl).val rfl)
              refine yes (want_n rfl) ?_
              have hv := hid (hK (.pointer (some ⟨b, o + j * 17 + 4, none⟩)) w (PrV.is rfl rfl) (Below.refl _ _))
              go_simp
              refine kq hv.out ?_
              rfl
            · intro ac w hR hd hk K hK
              have e39 : ac.tmps[39]?.getD undef = (.pointer (some ⟨b, o + j * 17 + 4, none⟩) : Value) := slot ((hd 6 _ 39 rfl rfl rfl).val rfl)
              have x0 := stay hR c4
              refine yes (want_n rfl) ?_
              have hv := hid (hK (.string sx) w (PrV.is rfl rfl) (Below.refl _ _))
              go_simp
              refine kq hv.out ?_
              rfl
            · intro ac w hR hd hk K hK
              refine yes (want_n rfl) ?_
              refine wp_callv 31 _ _ rfl _ Try.func31 rfl rfl _ (args2 ((hd 1 _ 34 rfl rfl rfl).val rfl) ((hd 7 _ 40 rfl rfl rfl).val rfl)) (kP w hR) ?_
              rintro e w' ⟨ra, rc, rfl, ho, hb⟩
              exact ⟨_, rfl, hK _ w' (PrV.by rfl ⟨ra, rc, rfl, ho⟩) hb⟩
            · intro ac w hR hd hk K hK
              obtain ⟨ra, rc, e1, h1⟩ := (hd 8 _ 41 rfl rfl rfl).out rfl
              exact yes (want_n rfl) (wp_mv _ rfl _ e1 (hK _ w (PrV.by rfl ⟨ra, rc, rfl, h1⟩) (Below.refl _ _)))
            · intro ac w hR hd hk K hK
              obtain ⟨ra, rc, e1, h1⟩ := (hd 9 _ 32 rfl rfl rfl).out rfl
              have t32 : ac.tmps[32]?.getD undef = (.tuple #[.slice ra m rc, .int .i64 E] : Value) := slot e1
              refine yes (want_n rfl) ?_
              go_simp
              exact hK _ w (PrV.by rfl ⟨ra, rc, rfl, h1⟩) (Below.refl _ _)
            · intro ac w hR hd hk K hK
              obtain ⟨ra, rc, e1, h1⟩ := (hd 9 _ 32 rfl rfl rfl).out rfl
              have t32 : ac.tmps[32]?.getD undef = (.tuple #[.slice ra m rc, .int .i64 E] : Value) := slot e1
              refine yes (want_n rfl) ?_
              go_simp
              exact hK _ w (PrV.is rfl rfl) (Below.refl _ _)
            · intro ac w hR hd hk K hK
              obtain ⟨ra, rc, e1, h1⟩ := (hd 10 _ 42 rfl rfl rfl).out rfl
              exact yes (want_n rfl) (wp_as _ rfl _ e1 (hK _ w (PrV.by rfl ⟨ra, rc, rfl, h1⟩) (Below.refl _ _)))
            · exact fun ac w hR hd hk K hK => yes (want_n rfl) (wp_as _ rfl _ ((hd 11 _ 43 rfl rfl rfl).val rfl) (hK _ w (PrV.is rfl rfl) (Below.refl _ _)))
          · intro ac1 w5 hdf hsz hkp hval hRw
            obtain ⟨ra, rc, q12, hTat⟩ := (hval 12 _ 12 rfl rfl).out rfl
            obtain ⟨f, hf2⟩ : ∃ f, f = fun d => ac1.tmps.getD d undef := ⟨_, rfl⟩
            have h12 : f 12 = (.slice ra m rc : Value) := by rw [hf2]; exact q12
            have hfa := act_filled hdf hsz hkp
            rw [← hf2] at hfa
            rw [hfa]
            clear hdf hsz hkp hval hfa hf2 q12
            clear ac1
            simp only [fillAll, List.set_cons_zero, List.set_cons_succ, h12]
            clear h12
            subst hg3
            have b5 := bnext hb hRw
            have B5 := bnext Bw hRw
            have c7 := cl.out w5 B5 7 (.int .i64 J.s.nodes) rfl
            have c8 := cl.out w5 B5 8 (.int .i64 J.s.cores) rfl
            have c11 := cl.out w5 B5 11 (.int .u8 J.st) rfl
            have kI := in26 ra m rc Tx n w5 hml.out (by omega) hTat
            clear y2 c4 kP
            by_cases hst : J.st = 2
            · rw [hst] at c11
              cases hB : hasB Tx n
              · have hno := hid (cst_no (p := p) (x := (X, Y)) (j := J) (fun h => by rw [hpJ.out, hB] at h; cases h.2))
                rw [hno.out] at hnext
                rw [hB] at kI
                replace hB := hid hB
                replace hst := hid hst
                go_wp2_with fail
                refine kI.mono ?_
                rintro e w6 ⟨rfl, rfl⟩
                go_wp2_with fail
                go_roundw
                case rel => exact ⟨j + 1, Y, X, by omega, rfl, by go_num, hnext, b5⟩
                case measure => simp [intOf]; omega
              · have hyes := hid (cst_yes (p := p) (x := (X, Y)) (j := J) hst (by rw [hpJ.out, hB]))
                rw [hyes.out, hcor.out] at hnext
                rw [hB] at kI
                replace hB := hid hB
                replace hst := hid hst
                go_wp2_with fail
                refine kI.mono ?_
                rintro e w6 ⟨rfl, rfl⟩
                go_wp2_with fail
                go_quiet (fail)
                have b6 := below_drewN b5 nq
                go_wp2_with fail
                go_roundw
                case rel => exact ⟨j + 1, Y + 1, _, by omega, rfl, by go_num, hnext, b6⟩
                case measure => simp [intOf]; omega
            · have hno := hid (cst_no (p := p) (x := (X, Y)) (j := J) (fun h => hst h.1))
              rw [hno.out] at hnext
              go_wp2_with fail
              go_roundw
              case rel => exact ⟨j + 1, Y, X, by omega, rfl, by go_num, hnext, b5⟩
              case measure => simp [intOf]; omega
        · have hje : j = k := by omega
          subst hje
          have hff := hid (cnt_all p L)
          rw [hn.out, hok.out] at hff
          go_wp2
          go_ret2
          rw [← hff.out]
          exact ⟨rfl, Bw⟩

set_option maxRecDepth 100000 in
set_option maxHeartbeats 4000000 in
theorem rqos_any (ca pa aa qa : Option Addr) (cn cc pn pc ak az qk qc : Nat) (pol : Int) (A : List Acc) (Q : List Qu) (a : Option Addr) (k c : Nat) (L : List Job) (n : ByteArray) (w : World) (hA : A.length = ak) (hac : ak ≤ az) (hQ : Q.length = qk) (hqc : qk ≤ qc) (hal : ak ≤ 4611686018427387904) (hql : qk ≤ 4611686018427387904) (hsA : Sized A) (hsQ : ∀ x ∈ Q, x.1.size ≤ 9223372036854775807) (hatA : AAt w aa A) (hatQ : QAt w qa Q) (hn : L.length = k) (hl : k ≤ 4611686018427387904) (hat : JAt w a L) :
    Calls Try.prog 14 #[.agg #[.slice ca cn cc, .slice pa pn pc, .slice aa ak az, .slice qa qk qc, .int .u8 pol], .slice a k c, .string n] w fun e w' => e = .returned (.tuple #[.int .i64 (qVal A Q L n), .int .i64 (qNum A Q L n), .int .i64 (qErr A Q n)]) ∧ Below w.heap.size w w' := by
  obtain ⟨W0, hW0⟩ : ∃ W0, W0 = w.alloc (.cells #[.slice ca cn cc, .slice pa pn pc, .slice aa ak az, .slice qa qk qc, .int .u8 pol] 28) := ⟨_, rfl⟩
  have bl := below_lit w (.cells #[.slice ca cn cc, .slice pa pn pc, .slice aa ak az, .slice qa qk qc, .int .u8 pol] 28)
  have v2 := lit_cell w 28 #[.slice ca cn cc, .slice pa pn pc, .slice aa ak az, .slice qa qk qc, .int .u8 pol] 2 (.slice aa ak az) rfl
  have v3 := lit_cell w 28 #[.slice ca cn cc, .slice pa pn pc, .slice aa ak az, .slice qa qk qc, .int .u8 pol] 3 (.slice qa qk qc) rfl
  have kR := rconf_any ca pa aa qa cn cc pn pc ak az qk qc pol A Q _ hA hac hQ hqc hal hql hsA hsQ (hatA.below bl) (hatQ.below bl)
  rw [← hW0] at bl v2 v3 kR
  have k2 := fun wx (hb : Below w.heap.size w wx) => rqual_any qa qk qc Q n wx hQ hql (hatQ.below hb)
  cases hR : confB A Q with
  | false =>
    have e1 : qErr A Q n = 2 := by unfold qErr; rw [hR]; rfl
    have e2 : qVal A Q L n = 0 := by unfold qVal; rw [e1]; rfl
    have e3 : qNum A Q L n = 0 := by unfold qNum; rw [e1]; rfl
    rw [e1, e2, e3]
    rw [hR] at kR
    replace hR := hid hR
    replace e1 := hid e1
    replace e2 := hid e2
    replace e3 := hid e3
    clear k2
    replace hA := hid hA
    replace hQ := hid hQ
    replace hatA := hid hatA
    replace hatQ := hid hatQ
    replace hsA := hid hsA
    replace hsQ := hid hsQ
    replace hn := hid hn
    replace hat := hid hat
    go_enter Try.func14, Try.ntmps14
    go_wp2_with fail
    rw [← hW0]
    refine kR.mono ?_
    rintro e w1 ⟨rfl, hb1⟩
    have D1 := bnext bl hb1
    go_wp2
    refine bodyPost_ret (results_tmp3 rfl _ _ _) rfl ?_
    exact ⟨rfl, D1⟩
  | true =>
    rw [hR] at kR
    cases hf : qi Q n with
    | none =>
      have e1 : qErr A Q n = 141 := by unfold qErr; rw [hR, hf]; rfl
      have e2 : qVal A Q L n = 0 := by unfold qVal; rw [e1]; rfl
      have e3 : qNum A Q L n = 0 := by unfold qNum; rw [e1]; rfl
      rw [e1, e2, e3]
      rw [hf] at k2
      have hneg := plV_neg (r := none) rfl
      generalize plV none = pl at *
      replace hR := hid hR
      replace hf := hid hf
      replace e1 := hid e1
      replace e2 := hid e2
      replace e3 := hid e3
      replace hA := hid hA
      replace hQ := hid hQ
      replace hatA := hid hatA
      replace hatQ := hid hatQ
      replace hsA := hid hsA
      replace hsQ := hid hsQ
      replace hn := hid hn
      replace hat := hid hat
      go_enter Try.func14, Try.ntmps14
      go_wp2_with fail
      rw [← hW0]
      refine kR.mono ?_
      rintro e w1 ⟨rfl, hb1⟩
      have D1 := bnext bl hb1
      replace v3 := stay hb1 v3
      go_wp2_with fail
      refine (k2 _ D1).mono ?_
      rintro e w2 ⟨rfl, rfl⟩
      go_wp2
      refine bodyPost_ret (results_tmp3 rfl _ _ _) rfl ?_
      exact ⟨rfl, D1⟩
    | some i =>
      have e1 : qErr A Q n = 0 := by unfold qErr; rw [hR, hf]; rfl
      have e2 : qVal A Q L n = (cntP (inP n) L).1 := by unfold qVal; rw [e1]; rfl
      have e3 : qNum A Q L n = ((cntP (inP n) L).2 : Int) := by unfold qNum; rw [e1]; rfl
      rw [e1, e2, e3]
      rw [hf] at k2
      have hneg := plV_pos (r := some i) rfl
      generalize plV (some i) = pl at *
      replace hR := hid hR
      replace hf := hid hf
      replace e1 := hid e1
      replace e2 := hid e2
      replace e3 := hid e3
      have hin0 : Hid (∀ s : Spc, inP n s = decide (s.qos = n)) := hid (fun s => rfl)
      generalize inP n = p at *
      replace hA := hid hA
      replace hQ := hid hQ
      replace hatA := hid hatA
      replace hatQ := hid hatQ
      replace hsA := hid hsA
      replace hsQ := hid hsQ
      replace hn := hid hn
      replace hat := hid hat
      go_enter Try.func14, Try.ntmps14
      go_wp2_with fail
      rw [← hW0]
      replace hW0 := hid hW0
      refine kR.mono ?_
      rintro e w1 ⟨rfl, hb1⟩
      have D1 := bnext bl hb1
      replace v3 := stay hb1 v3
      clear kR
      go_wp2_with fail
      refine (k2 _ D1).mono ?_
      rintro e w2 ⟨rfl, rfl⟩
      clear k2
      replace v3 := hid v3
      go_wp2_with fail
      go_loopw [9, 10, 11] (fun x y i wr => ∃ (j Y : Nat) (X : Int), j ≤ k ∧ Y ≤ j ∧ x = .int .i64 X ∧ y = .int .i64 (Y : Int) ∧ i = .int .i64 (j : Int) ∧ Hid (cntP p (L.take j) = (X, Y)) ∧ Below w2.heap.size w2 wr) (fun _ _ i _ => k - (intOf i).toNat)
      case atStart => exact ⟨0, 0, 0, Nat.zero_le _, Nat.le_refl _, rfl, rfl, rfl, hid rfl, Below.refl _ _⟩
      case round =>
        obtain ⟨j, Y, X, hj, hY, rfl, rfl, rfl, hok, hb⟩ := hrel
        have Bw := bnext D1 hb
        by_cases hlt : j < k
        · have hjL : j < L.length := by rw [hn.out]; exact hlt
          obtain ⟨b, o, e⟩ := hat.out.place (by omega)
          subst e
          have cl := (hat.out.below Bw).range hjL
          have hnext := hid (cnt_next (p := p) hjL)
          rw [hok.out] at hnext
          generalize jobAt L j = J at *
          have c5 := cl 5 (.string J.s.qos) rfl
          have c7 := cl 7 (.int .i64 J.s.nodes) rfl
          have c8 := cl 8 (.int .i64 J.s.cores) rfl
          have c11 := cl 11 (.int .u8 J.st) rfl
          have hcor : Hid (cor J.s = wrap64 (J.s.nodes * J.s.cores)) := hid rfl
          clear cl
          by_cases hst : J.st = 2
          · rw [hst] at c11
            by_cases hB : J.s.qos = n
            · have hyes := hid (cst_yes (p := p) (x := (X, Y)) (j := J) hst (by rw [hin0.out]; exact decide_eq_true hB))
              rw [hyes.out, hcor.out] at hnext
              have he := text_eq hB
              replace hB := hid hB
              replace hst := hid hst
              go_wp2_with fail
              go_quiet (fail)
              have b6 := below_drewN hb nq
              go_wp2_with fail
              go_roundw
              case rel => exact ⟨j + 1, Y + 1, _, by omega, by omega, rfl, by go_num, by go_num, hnext, b6⟩
              case measure => simp [intOf]; omega
            · have hno := hid (cst_no (p := p) (x := (X, Y)) (j := J) (fun h => by rw [hin0.out, decide_eq_false hB] at h; cases h.2))
              rw [hno.out] at hnext
              have he := text_ne hB
              replace hB := hid hB
              replace hst := hid hst
              go_wp2_with fail
              go_roundw
              case rel => exact ⟨j + 1, Y, X, by omega, by omega, rfl, rfl, by go_num, hnext, hb⟩
              case measure => simp [intOf]; omega
          · have hno := hid (cst_no (p := p) (x := (X, Y)) (j := J) (fun h => hst h.1))
            rw [hno.out] at hnext
            go_wp2_with fail
            go_roundw
            case rel => exact ⟨j + 1, Y, X, by omega, by omega, rfl, rfl, by go_num, hnext, hb⟩
            case measure => simp [intOf]; omega
        · have hje : j = k := by omega
          subst hje
          have hff := hid (cnt_all p L)
          rw [hn.out, hok.out] at hff
          go_wp2
          refine bodyPost_ret (results_tmp3 rfl _ _ _) rfl ?_
          rw [← hff.out]
          exact ⟨rfl, Bw⟩

end Go.Proofs.Ytpebhjncdfcmnaa
