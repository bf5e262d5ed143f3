/- The document's own: how many cores run for an account, and for a quality. -/
import Derived.Test.YtilncacmkfohdaaRq
import Derived.Test.YtilncacmkfohdaaHoldP
namespace Go.Proofs.Ytilncacmkfohdaa
open Go.RowKit
set_option linter.unusedVariables false

theorem on_path (A : List Acc) (n : ByteArray) : (fun s : Spc => hasB (pathP A s.acct) n) = onP A n := by
  funext s
  cases h : onP A n s with
  | true => exact has_is.2 (on_is.1 h)
  | false =>
    rw [has_no]
    intro h2
    rw [on_is.2 h2] at h
    cases h

def pv12 (g3 : Nat) (aa : Option Addr) (ak az b o k c j : Nat) (sx : ByteArray) (E : Int) : List Value := [.pointer (some ⟨g3, 2, none⟩), .slice aa ak az, .slice (some ⟨b, o, none⟩) k c, .int .i64 (j : Int), .pointer (some ⟨b, o + j * 17, none⟩), .pointer (some ⟨b, o + j * 17 + 3, none⟩), .pointer (some ⟨b, o + j * 17 + 4, none⟩), .string sx, undef, undef, undef, .int .i64 E, undef, .int .i64 E]

set_option maxRecDepth 100000 in
set_option maxHeartbeats 4000000 in
theorem rqos_any (ca pa aa qa : Option Addr) (cn cc pn pc ak az qk qc : Nat) (pol : Int) (A : List Acc) (Q : List Qu) (a : Option Addr) (k c : Nat) (L : List Job) (n : ByteArray) (w : World) (hA : A.length = ak) (hac : ak ≤ az) (hQ : Q.length = qk) (hqc : qk ≤ qc) (hal : ak ≤ 4611686018427387904) (hql : qk ≤ 4611686018427387904) (hsA : Sized A) (hsQ : ∀ x ∈ Q, x.1.size ≤ 9223372036854775807) (hatA : AAt w aa A) (hatQ : QAt w qa Q) (hn : L.length = k) (hl : k ≤ 4611686018427387904) (hat : JAt w a L) :
    Calls Try.prog 42 #[.agg #[.slice ca cn cc, .slice pa pn pc, .slice aa ak az, .slice qa qk qc, .int .u8 pol], .slice a k c, .string n] w fun e w' => e = .returned (.tuple #[.int .i64 (qVal A Q L n), .int .i64 (qNum A Q L n), .int .i64 (qErr A Q n)]) ∧ Below w.heap.size w w' := by
  obtain ⟨W0, hW0⟩ : ∃ W0, W0 = w.alloc (.cells #[.slice ca cn cc, .slice pa pn pc, .slice aa ak az, .slice qa qk qc, .int .u8 pol] 28) := ⟨_, rfl⟩
  have bl := below_lit w (.cells #[.slice ca cn cc, .slice pa pn pc, .slice aa ak az, .slice qa qk qc, .int .u8 pol] 28)
  have v2 := lit_cell w 28 #[.slice ca cn cc, .slice pa pn pc, .slice aa ak az, .slice qa qk qc, .int .u8 pol] 2 (.slice aa ak az) rfl
  have v3 := lit_cell w 28 #[.slice ca cn cc, .slice pa pn pc, .slice aa ak az, .slice qa qk qc, .int .u8 pol] 3 (.slice qa qk qc) rfl
  have kR := rconf_any ca pa aa qa cn cc pn pc ak az qk qc pol A Q _ hA hac hQ hqc hal hql hsA hsQ (hatA.below bl) (hatQ.below bl)
  rw [← hW0] at bl v2 v3 kR
  have k2 := fun wx (hb : Below w.heap.size w wx) => rqual_any qa qk qc Q n wx hQ hql (hatQ.below hb)
  cases hR : confB A Q with
  | false =>
    have e1 : qErr A Q n = 2 := by unfold qErr; rw [hR]; rfl
    have e2 : qVal A Q L n = 0 := by unfold qVal; rw [e1]; rfl
    have e3 : qNum A Q L n = 0 := by unfold qNum; rw [e1]; rfl
    rw [e1, e2, e3]
    rw [hR] at kR
    replace hR := hid hR
    replace e1 := hid e1
    replace e2 := hid e2
    replace e3 := hid e3
    clear k2
    replace hA := hid hA
    replace hQ := hid hQ
    replace hatA := hid hatA
    replace hatQ := hid hatQ
    replace hsA := hid hsA
    replace hsQ := hid hsQ
    replace hn := hid hn
    replace hat := hid hat
    go_enter Try.func42, Try.ntmps42
    go_wp2_with fail
    rw [← hW0]
    refine kR.mono ?_
    rintro e w1 ⟨rfl, hb1⟩
    have D1 := bnext bl hb1
    go_wp2
    refine bodyPost_ret (results_tmp3 rfl _ _ _) rfl ?_
    exact ⟨rfl, D1⟩
  | true =>
    rw [hR] at kR
    cases hf : qi Q n with
    | none =>
      have e1 : qErr A Q n = 141 := by unfold qErr; rw [hR, hf]; rfl
      have e2 : qVal A Q L n = 0 := by unfold qVal; rw [e1]; rfl
      have e3 : qNum A Q L n = 0 := by unfold qNum; rw [e1]; rfl
      rw [e1, e2, e3]
      rw [hf] at k2
      have hneg := plV_neg (r := none) rfl
      generalize plV none = pl at *
      replace hR := hid hR
      replace hf := hid hf
      replace e1 := hid e1
      replace e2 := hid e2
      replace e3 := hid e3
      replace hA := hid hA
      replace hQ := hid hQ
      replace hatA := hid hatA
      replace hatQ := hid hatQ
      replace hsA := hid hsA
      replace hsQ := hid hsQ
      replace hn := hid hn
      replace hat := hid hat
      go_enter Try.func42, Try.ntmps42
      go_wp2_with fail
      rw [← hW0]
      refine kR.mono ?_
      rintro e w1 ⟨rfl, hb1⟩
      have D1 := bnext bl hb1
      replace v3 := stay hb1 v3
      go_wp2_with fail
      refine (k2 _ D1).mono ?_
      rintro e w2 ⟨rfl, rfl⟩
      go_wp2
      refine bodyPost_ret (results_tmp3 rfl _ _ _) rfl ?_
      exact ⟨rfl, D1⟩
    | some i =>
      have e1 : qErr A Q n = 0 := by unfold qErr; rw [hR, hf]; rfl
      have e2 : qVal A Q L n = (cntP (inP n) L).1 := by unfold qVal; rw [e1]; rfl
      have e3 : qNum A Q L n = ((cntP (inP n) L).2 : Int) := by unfold qNum; rw [e1]; rfl
      rw [e1, e2, e3]
      rw [hf] at k2
      have hneg := plV_pos (r := some i) rfl
      generalize plV (some i) = pl at *
      replace hR := hid hR
      replace hf := hid hf
      replace e1 := hid e1
      replace e2 := hid e2
      replace e3 := hid e3
      have hin0 : Hid (∀ s : Spc, inP n s = decide (s.qos = n)) := hid (fun s => rfl)
      generalize inP n = p at *
      replace hA := hid hA
      replace hQ := hid hQ
      replace hatA := hid hatA
      replace hatQ := hid hatQ
      replace hsA := hid hsA
      replace hsQ := hid hsQ
      replace hn := hid hn
      replace hat := hid hat
      go_enter Try.func42, Try.ntmps42
      go_wp2_with fail
      rw [← hW0]
      replace hW0 := hid hW0
      refine kR.mono ?_
      rintro e w1 ⟨rfl, hb1⟩
      have D1 := bnext bl hb1
      replace v3 := stay hb1 v3
      clear kR
      go_wp2_with fail
      refine (k2 _ D1).mono ?_
      rintro e w2 ⟨rfl, rfl⟩
      clear k2
      replace v3 := hid v3
      go_wp2_with fail
      go_loopw [9, 10, 11] (fun x y i wr => ∃ (j Y : Nat) (X : Int), j ≤ k ∧ Y ≤ j ∧ x = .int .i64 X ∧ y = .int .i64 (Y : Int) ∧ i = .int .i64 (j : Int) ∧ Hid (cntP p (L.take j) = (X, Y)) ∧ Below w2.heap.size w2 wr) (fun _ _ i _ => k - (intOf i).toNat)
      case atStart => exact ⟨0, 0, 0, Nat.zero_le _, Nat.le_refl _, rfl, rfl, rfl, hid rfl, Below.refl _ _⟩
      case round =>
        obtain ⟨j, Y, X, hj, hY, rfl, rfl, rfl, hok, hb⟩ := hrel
        have Bw := bnext D1 hb
        by_cases hlt : j < k
        · have hjL : j < L.length := by rw [hn.out]; exact hlt
          obtain ⟨b, o, e⟩ := hat.out.place (by omega)
          subst e
          have cl := (hat.out.below Bw).range hjL
          have hnext := hid (cnt_next (p := p) hjL)
          rw [hok.out] at hnext
          generalize jobAt L j = J at *
          have c5 := cl 5 (.string J.s.qos) rfl
          have c7 := cl 7 (.int .i64 J.s.nodes) rfl
          have c8 := cl 8 (.int .i64 J.s.cores) rfl
          have c11 := cl 11 (.int .u8 J.st) rfl
          have hcor : Hid (cor J.s = wrap64 (J.s.nodes * J.s.cores)) := hid rfl
          clear cl
          by_cases hst : J.st = 2
          · rw [hst] at c11
            by_cases hB : J.s.qos = n
            · have hyes := hid (cst_yes (p := p) (x := (X, Y)) (j := J) hst (by rw [hin0.out]; exact decide_eq_true hB))
              rw [hyes.out, hcor.out] at hnext
              have he := text_eq hB
              replace hB := hid hB
              replace hst := hid hst
              go_wp2_with fail
              go_quiet (fail)
              have b6 := below_drewN hb nq
              go_wp2_with fail
              go_roundw
              case rel => exact ⟨j + 1, Y + 1, _, by omega, by omega, rfl, by go_num, by go_num, hnext, b6⟩
              case measure => simp [intOf]; omega
            · have hno := hid (cst_no (p := p) (x := (X, Y)) (j := J) (fun h => by rw [hin0.out, decide_eq_false hB] at h; cases h.2))
              rw [hno.out] at hnext
              have he := text_ne hB
              replace hB := hid hB
              replace hst := hid hst
              go_wp2_with fail
              go_roundw
              case rel => exact ⟨j + 1, Y, X, by omega, by omega, rfl, rfl, by go_num, hnext, hb⟩
              case measure => simp [intOf]; omega
          · have hno := hid (cst_no (p := p) (x := (X, Y)) (j := J) (fun h => hst h.1))
            rw [hno.out] at hnext
            go_wp2_with fail
            go_roundw
            case rel => exact ⟨j + 1, Y, X, by omega, by omega, rfl, rfl, by go_num, hnext, hb⟩
            case measure => simp [intOf]; omega
        · have hje : j = k := by omega
          subst hje
          have hff := hid (cnt_all p L)
          rw [hn.out, hok.out] at hff
          go_wp2
          refine bodyPost_ret (results_tmp3 rfl _ _ _) rfl ?_
          rw [← hff.out]
          exact ⟨rfl, Bw⟩

end Go.Proofs.Ytilncacmkfohdaa
