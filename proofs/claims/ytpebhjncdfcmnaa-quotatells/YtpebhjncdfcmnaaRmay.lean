/- The document's own: whether one more job may run. -/
import Derived.Test.YtpebhjncdfcmnaaRm
import Derived.Test.YtpebhjncdfcmnaaCp
namespace Go.Proofs.Ytpebhjncdfcmnaa
open Go.RowKit
set_option linter.unusedVariables false

def pv18a (ca pa aa qa : Option Addr) (cn cc pn pc ak az qk qc : Nat) (pol : Int) (a : Option Addr) (k c : Nat) (g3 tb to tk tc j : Nat) (m : ByteArray) (X : Int) : List Value := [.agg #[.slice ca cn cc, .slice pa pn pc, .slice aa ak az, .slice qa qk qc, .int .u8 pol], .slice a k c, .slice (some ⟨tb, to, none⟩) tk tc, .int .i64 (j : Int), .pointer (some ⟨tb, to + j, none⟩), .string m, .tuple #[.int .i64 X, .int .i64 0], .tuple #[.int .i64 X, .int .i64 0], .int .i64 X, .int .i64 0, .int .i64 X, .int .i64 0]

def pv18b (aa : Option Addr) (ak az g3 tb to tk tc j : Nat) (m : ByteArray) (i : Nat) : List Value := [.pointer (some ⟨g3, 2, none⟩), .slice aa ak az, .slice (some ⟨tb, to, none⟩) tk tc, .int .i64 (j : Int), .pointer (some ⟨tb, to + j, none⟩), .string m, .tuple #[.int .i64 (i : Int), .bool true], .tuple #[.int .i64 (i : Int), .bool true], .int .i64 (i : Int), .bool true, .int .i64 (i : Int), .bool true]

def pv18c (g3 g5 qb qo qk qc : Nat) (sx : ByteArray) (i : Nat) (nm : ByteArray) (pr lm jm : Int) : List Value := [.pointer (some ⟨g3, 3, none⟩), .slice (some ⟨qb, qo, none⟩) qk qc, .pointer (some ⟨g3, 3, none⟩), .slice (some ⟨qb, qo, none⟩) qk qc, .pointer (some ⟨g5, 2, none⟩), .string sx, .int .i64 (i : Int), .pointer (some ⟨qb, qo + i * 4, none⟩), .agg #[.string nm, .int .i64 pr, .int .i64 lm, .int .i64 jm], undef]

theorem q_err2 {A : List Acc} {Q : List Qu} {n : ByteArray} {i : Nat} (hR : confB A Q = true) (h : qi Q n = some i) : qErr A Q n = 0 := by unfold qErr; rw [if_pos hR, h]; rfl
theorem q_val2 {A : List Acc} {Q : List Qu} {L : List Job} {n : ByteArray} (he : qErr A Q n = 0) : qVal A Q L n = (cntP (inP n) L).1 := by unfold qVal; rw [if_pos he]
theorem q_num2 {A : List Acc} {Q : List Qu} {L : List Job} {n : ByteArray} (he : qErr A Q n = 0) : qNum A Q L n = ((cntP (inP n) L).2 : Int) := by unfold qNum; rw [if_pos he]
def PassB (L : List Bd) (j : Nat) : Prop := (L.take j).any pasB = false
theorem PassB.next {L : List Bd} {j : Nat} (h : PassB L j) (hj : j < L.length) (hp : pasB L[j] = false) : PassB L (j + 1) := by
  unfold PassB at *
  rw [take_more hj, List.any_append, h]
  simp [hp]
theorem any_at {L : List Bd} {j : Nat} (hj : j < L.length) (h : pasB L[j] = true) : L.any pasB = true := List.any_eq_true.2 ⟨_, List.getElem_mem hj, h⟩

set_option maxRecDepth 100000 in
set_option maxHeartbeats 8000000 in
theorem rmay_any (ca pa aa qa : Option Addr) (cn cc pn pc ak az qk qc : Nat) (pol : Int) (A : List Acc) (Q : List Qu) (a : Option Addr) (k c : Nat) (L : List Job) (s : Spc) (w : World) (hA : A.length = ak) (hac : ak ≤ az) (hQ : Q.length = qk) (hqc : qk ≤ qc) (hal : ak ≤ 4611686018427387904) (hql : qk ≤ 4611686018427387904) (hsA : Sized A) (hsQ : ∀ x ∈ Q, x.1.size ≤ 9223372036854775807) (hatA : AAt w aa A) (hatQ : QAt w qa Q) (hn : L.length = k) (hl : k ≤ 4611686018427387904) (hat : JAt w a L) :
    Calls Try.prog 18 #[.agg #[.slice ca cn cc, .slice pa pn pc, .slice aa ak az, .slice qa qk qc, .int .u8 pol], .slice a k c, .agg (sc s).toArray] w fun e w' => e = .returned (.int .i64 (mayP A Q L s)) ∧ Below w.heap.size w w' := by
  obtain ⟨W0, hW0⟩ : ∃ W0, W0 = (w.alloc (.cells #[.slice ca cn cc, .slice pa pn pc, .slice aa ak az, .slice qa qk qc, .int .u8 pol] 28)).alloc (.cells (sc s).toArray 32) := ⟨_, rfl⟩
  have bl0 := below_lit w (.cells #[.slice ca cn cc, .slice pa pn pc, .slice aa ak az, .slice qa qk qc, .int .u8 pol] 28)
  have bl1 := below_lit (w.alloc (.cells #[.slice ca cn cc, .slice pa pn pc, .slice aa ak az, .slice qa qk qc, .int .u8 pol] 28)) (.cells (sc s).toArray 32)
  have bl := bnext bl0 bl1
  have cl := range_below (lit_range w 28 [.slice ca cn cc, .slice pa pn pc, .slice aa ak az, .slice qa qk qc, .int .u8 pol]) bl1
  have y0 := cl 0 _ rfl
  have y1 := cl 1 _ rfl
  have y2 := cl 2 _ rfl
  have y3 := cl 3 _ rfl
  have y4 := cl 4 _ rfl
  simp only [Nat.zero_add] at y0 y1 y2 y3 y4
  have hsp := lit_range (w.alloc (.cells #[.slice ca cn cc, .slice pa pn pc, .slice aa ak az, .slice qa qk qc, .int .u8 pol] 28)) 32 (sc s)
  rw [size_lit] at hsp
  have s1 := hsp 1 (.string s.acct) rfl
  have s2 := hsp 2 (.string s.qos) rfl
  have s4 := hsp 4 (.int .i64 s.nodes) rfl
  have s5 := hsp 5 (.int .i64 s.cores) rfl
  simp only [Nat.zero_add] at s1 s2 s4 s5
  have y0u := y0
  have y1u := y1
  have y2u := y2
  have y3u := y3
  have y4u := y4
  have kR := rconf_any ca pa aa qa cn cc pn pc ak az qk qc pol A Q _ hA hac hQ hqc hal hql hsA hsQ (hatA.below bl) (hatQ.below bl)
  rw [← hW0] at bl kR y0 y1 y2 y3 y4 s1 s2 s4 s5
  clear bl0 bl1 cl hsp
  cases hR : confB A Q with
  | false =>
    have hm : mayP A Q L s = 2 := by unfold mayP; rw [hR]; rfl
    rw [hm]
    rw [hR] at kR
    replace hR := hid hR
    replace hm := hid hm
    replace hA := hid hA
    replace hQ := hid hQ
    replace hatA := hid hatA
    replace hatQ := hid hatQ
    replace hsA := hid hsA
    replace hsQ := hid hsQ
    replace hn := hid hn
    replace hat := hid hat
    go_enter Try.func18, Try.ntmps18
    go_wp2_with fail
    rw [← hW0]
    refine kR.mono ?_
    rintro e w1 ⟨rfl, hb1⟩
    have D1 := bnext bl hb1
    go_wp2
    go_ret
    exact ⟨rfl, D1⟩
  | true =>
    obtain ⟨hRA, hRQ⟩ := conf_is.1 hR
    have kP := fun wx (hb : Below w.heap.size w wx) => rpath_any aa ak az A s.acct wx hA hal hac hsA (hatA.below hb)
    have kQs := fun wx (hb : Below w.heap.size w wx) => rqos_any ca pa aa qa cn cc pn pc ak az qk qc pol A Q a k c L s.qos wx hA hac hQ hqc hal hql hsA hsQ (hatA.below hb) (hatQ.below hb) hn hl (hat.below hb)
    have kCs := fun m wx (hb : Below w.heap.size w wx) => rcores_any ca pa aa qa cn cc pn pc ak az qk qc pol A Q a k c L m wx hA hac hQ hqc hal hql hsA hsQ (hatA.below hb) (hatQ.below hb) hn hl (hat.below hb)
    have kFs := fun m wx (hb : Below w.heap.size w wx) => rfind_any aa ak az A m wx hA hal (hatA.below hb)
    have kQp := fun wx (hb : Below w.heap.size w wx) => rqual_any qa qk qc Q s.qos wx hQ hql (hatQ.below hb)
    rw [hR] at kR
    by_cases hbad : fi A s.acct = none ∨ qi Q s.qos = none
    · have hm : mayP A Q L s = 141 := by
        unfold mayP
        rw [if_pos hR]
        rcases hbad with h | h
        · rw [h]
        · rw [h]; cases fi A s.acct <;> rfl
      rw [hm]
      have he : ¬ errP A s.acct = 0 ∨ ¬ qErr A Q s.qos = 0 := by
        rcases hbad with h | h
        · left; rw [err_no hRA h]; omega
        · right; unfold qErr; rw [if_pos hR, h]; simp
      generalize (if errP A s.acct = 0 then pathP A s.acct else []) = Tx at *
      generalize errP A s.acct = E1 at *
      generalize qErr A Q s.qos = E2 at *
      generalize qVal A Q L s.qos = X2 at *
      generalize qNum A Q L s.qos = N2 at *
      replace hR := hid hR
      replace hRA := hid hRA
      replace hRQ := hid hRQ
      replace hm := hid hm
      replace hbad := hid hbad
      clear kCs kFs kQp
      replace hA := hid hA
      replace hQ := hid hQ
      replace hatA := hid hatA
      replace hatQ := hid hatQ
      replace hsA := hid hsA
      replace hsQ := hid hsQ
      replace hn := hid hn
      replace hat := hid hat
      go_enter Try.func18, Try.ntmps18
      go_wp2_with fail
      rw [← hW0]
      replace hW0 := hid hW0
      refine kR.mono ?_
      rintro e w1 ⟨rfl, hb1⟩
      have D1 := bnext bl hb1
      replace y0 := stay hb1 y0
      replace y1 := stay hb1 y1
      replace y2 := stay hb1 y2
      replace y3 := stay hb1 y3
      replace y4 := stay hb1 y4
      replace s1 := stay hb1 s1
      replace s2 := stay hb1 s2
      replace s4 := stay hb1 s4
      replace s5 := stay hb1 s5
      clear kR y0u y1u y2u y3u y4u
      go_wp2_with fail
      refine (kP _ D1).mono ?_
      rintro e w2 ⟨ta, tc, rfl, htc, ho, hb2⟩
      have D2 := bnext D1 hb2
      replace y0 := stay hb2 y0
      replace y1 := stay hb2 y1
      replace y2 := stay hb2 y2
      replace y3 := stay hb2 y3
      replace y4 := stay hb2 y4
      replace s1 := stay hb2 s1
      replace s2 := stay hb2 s2
      replace s4 := stay hb2 s4
      replace s5 := stay hb2 s5
      clear kP
      replace ho := hid ho
      go_wp2_with fail
      refine (kQs _ D2).mono ?_
      rintro e w3 ⟨rfl, hb3⟩
      have D3 := bnext D2 hb3
      clear kQs
      by_cases h1 : E1 = 0
      · have h2 : ¬ E2 = 0 := by
          rcases he with h | h
          · exact absurd h1 h
          · exact h
        replace he := hid he
        subst h1
        go_wp2
        go_ret
        exact ⟨rfl, D3⟩
      · replace he := hid he
        go_wp2
        go_ret
        exact ⟨rfl, D3⟩
    · obtain ⟨i0, hf⟩ : ∃ i, fi A s.acct = some i := by
        cases h : fi A s.acct with
        | none => exact absurd (.inl h) hbad
        | some i => exact ⟨i, rfl⟩
      obtain ⟨i, hq⟩ : ∃ i, qi Q s.qos = some i := by
        cases h : qi Q s.qos with
        | none => exact absurd (.inr h) hbad
        | some i => exact ⟨i, rfl⟩
      clear hbad
      have hm : mayP A Q L s = (if (((pathP A s.acct).map (abd A L s)).any pasB || (qbd (quAt Q i) L s).any pasB) = true then 150 else 0) := by
        unfold mayP; rw [if_pos hR, hf, hq]
      rw [hm]
      clear hm
      have he := err_of hRA hf
      rw [he, if_pos rfl] at kP
      have hqe := q_err2 hR hq
      rw [q_val2 hqe, q_num2 hqe, hqe] at kQs
      rw [hq, show plV (some i) = (i : Int) from rfl] at kQp
      have hTm : ∀ n ∈ pathP A s.acct, ∃ j, fi A n = some j := fun n hn => by
        obtain ⟨j, _, h⟩ := path_mem hRA hf hn
        exact ⟨j, h⟩
      have hqn := qi_name hq
      have hiQ := qi_lt hq
      have hik : i < qk := by rw [← hQ]; exact hiQ
      have hiz : (0 : Int) ≤ (i : Int) := by omega
      have hl16 : ak ≤ 16 := by rw [← hA]; exact (right_is.1 hRA).2.1
      have hl1 : 1 ≤ ak := by rw [← hA]; exact (right_is.1 hRA).1
      have hpl : (pathP A s.acct).length ≤ 16 := by
        have h1 := path_len hf
        have h2 := fi_lt hf
        omega
      obtain ⟨b, o, e⟩ := hatA.place (by omega)
      subst e
      obtain ⟨qb, qo, e⟩ := hatQ.place (by omega)
      subst e
      have hqb : qbd (quAt Q i) L s = [((quAt Q i).2.2.1, wrap64 ((cntP (inP s.qos) L).1 + cor s)), ((quAt Q i).2.2.2, (((cntP (inP s.qos) L).2 + 1 : Nat) : Int))] := by unfold qbd; rw [hqn]
      have hcl := cnt_len (inP s.qos) L
      rw [hn] at hcl
      have hab : ∀ m, abd A L s m = (limOf A m, wrap64 ((cntP (onP A m) L).1 + cor s)) := fun m => rfl
      have hcor : cor s = wrap64 (s.nodes * s.cores) := rfl
      have kC2 : ∀ m q, fi A m = some q → ∀ wx, Below w.heap.size w wx → Calls Try.prog 12 #[.agg #[.slice ca cn cc, .slice pa pn pc, .slice (some ⟨b, o, none⟩) ak az, .slice (some ⟨qb, qo, none⟩) qk qc, .int .u8 pol], .slice a k c, .string m] wx fun e w' => e = .returned (.tuple #[.int .i64 (cntP (onP A m) L).1, .int .i64 0]) ∧ Below wx.heap.size wx w' := fun m q h wx hb => by
        have h2 := kCs m wx hb
        have hce : cErr A Q m = 0 := by unfold cErr; rw [if_pos hR, h]; rfl
        have hcv : cVal A Q L m = (cntP (onP A m) L).1 := by unfold cVal; rw [if_pos hce]
        rw [hcv, hce] at h2
        exact h2
      clear kCs
      have zs := fun wx (hb : Below w.heap.size w wx) => (hatQ.below hb).one hiQ
      rw [hqb]
      clear hqb
      generalize cntP (inP s.qos) L = XY at *
      obtain ⟨X2, Y2⟩ := XY
      dsimp only at *
      generalize quAt Q i = QX at *
      obtain ⟨nm, pr, lm, jm⟩ := QX
      dsimp only at *
      generalize abd A L s = bd at *
      generalize pathP A s.acct = Tx at *
      rw [hcor] at hab ⊢
      generalize hRR : wrap64 (s.nodes * s.cores) = R at *
      replace hRR := hid hRR
      obtain ⟨ans, hans⟩ : ∃ ans : Int, ans = (if ((Tx.map bd).any pasB || ([(lm, wrap64 (X2 + R)), (jm, ((Y2 + 1 : Nat) : Int))] : List Bd).any pasB) = true then 150 else 0) := ⟨_, rfl⟩
      rw [← hans]
      replace hans := hid hans
      replace hR := hid hR
      replace hRA := hid hRA
      replace hRQ := hid hRQ
      replace hf := hid hf
      replace hq := hid hq
      replace he := hid he
      replace hqe := hid hqe
      replace hTm := hid hTm
      replace hqn := hid hqn
      replace hcor := hid hcor
      replace hab := hid hab
      replace kC2 := hid kC2
      replace kFs := hid kFs
      replace kQp := hid kQp
      replace zs := hid zs
      replace hA := hid hA
      replace hQ := hid hQ
      replace hatA := hid hatA
      replace hatQ := hid hatQ
      replace hsA := hid hsA
      replace hsQ := hid hsQ
      replace hn := hid hn
      replace hat := hid hat
      go_enter Try.func18, Try.ntmps18
      go_wp2_with fail
      rw [← hW0]
      replace hW0 := hid hW0
      refine kR.mono ?_
      rintro e w1 ⟨rfl, hb1⟩
      have D1 := bnext bl hb1
      replace y0 := stay hb1 y0
      replace y1 := stay hb1 y1
      replace y2 := stay hb1 y2
      replace y3 := stay hb1 y3
      replace y4 := stay hb1 y4
      replace s1 := stay hb1 s1
      replace s2 := stay hb1 s2
      replace s4 := stay hb1 s4
      replace s5 := stay hb1 s5
      clear kR y0u y1u y2u y3u y4u
      go_wp2_with fail
      refine (kP _ D1).mono ?_
      rintro e w2 ⟨ta, tc, rfl, htc, ho, hb2⟩
      have D2 := bnext D1 hb2
      replace y0 := stay hb2 y0
      replace y1 := stay hb2 y1
      replace y2 := stay hb2 y2
      replace y3 := stay hb2 y3
      replace y4 := stay hb2 y4
      replace s1 := stay hb2 s1
      replace s2 := stay hb2 s2
      replace s4 := stay hb2 s4
      replace s5 := stay hb2 s5
      clear kP
      have hTat0 := ho.tat
      replace ho := hid ho
      generalize hTl : Tx.length = tk at *
      replace hTl := hid hTl
      replace hTat0 := hid hTat0
      go_wp2_with fail
      refine (kQs _ D2).mono ?_
      rintro e w3 ⟨rfl, hb3⟩
      have D3 := bnext D2 hb3
      replace y0 := stay hb3 y0
      replace y1 := stay hb3 y1
      replace y2 := stay hb3 y2
      replace y3 := stay hb3 y3
      replace y4 := stay hb3 y4
      replace s1 := stay hb3 s1
      replace s2 := stay hb3 s2
      replace s4 := stay hb3 s4
      replace s5 := stay hb3 s5
      have hTat := hid (hTat0.out.below hb3)
      clear kQs hTat0 ho
      have htk : tk ≤ 16 := by omega
      go_wp2_with fail
      rw [hRR.out]
      clear s1 s4 s5
      replace y0 := hid y0
      replace y1 := hid y1
      replace y2 := hid y2
      replace y3 := hid y3
      replace y4 := hid y4
      replace s2 := hid s2
      go_loopw [13] (fun i wr => ∃ j : Nat, j ≤ tk ∧ i = .int .i64 (j : Int) ∧ Hid (PassB (Tx.map bd) j) ∧ Below w3.heap.size w3 wr) (fun i _ => tk - (intOf i).toNat)
      case atStart => exact ⟨0, Nat.zero_le _, rfl, hid rfl, Below.refl _ _⟩
      case round =>
        obtain ⟨j, hj, rfl, hok, hb⟩ := hrel
        have Bw := bnext D3 hb
        have q0 := hid (stay hb y0.out)
        have q1 := hid (stay hb y1.out)
        have q2 := hid (stay hb y2.out)
        have q3 := hid (stay hb y3.out)
        have q4 := hid (stay hb y4.out)
        have qs2 := hid (stay hb s2.out)
        by_cases hlt : j < tk
        · have hjT : j < Tx.length := by rw [hTl.out]; exact hlt
          obtain ⟨tb, to, e⟩ := hTat.out.place (by omega)
          subst e
          have xm := (hTat.out.below hb).one hjT
          obtain ⟨i2, hi2⟩ := hTm.out Tx[j] (List.getElem_mem hjT)
          rw [txAt_eq hjT] at hi2
          have hi2A := fi_lt hi2
          have hi2k : i2 < ak := by rw [← hA.out]; exact hi2A
          have kc := fun wx (h : Below wr.heap.size wr wx) => kC2.out (txAt Tx j) i2 hi2 wx (bnext Bw h)
          have kf := fun wx (h : Below w.heap.size w wx) => kFs.out (txAt Tx j) wx h
          rw [hi2] at kf
          simp only [FRet] at kf
          have hjM : j < (Tx.map bd).length := by rw [List.length_map]; exact hjT
          have hMj : (Tx.map bd)[j] = (limOf A (txAt Tx j), wrap64 ((cntP (onP A (txAt Tx j)) L).1 + R)) := by
            rw [List.getElem_map, txAt_eq hjT]; exact hab.out _
          rw [limOf_eq hi2] at hMj
          have hnx := hid (fun h => hok.out.next hjM h)
          have hyes := hid (fun h => any_at hjM h)
          rw [hMj] at hnx hyes
          have hpas : ∀ x y : Int, pasB (x, y) = (decide (-1 < x) && decide (x < y)) := fun _ _ => rfl
          rw [hpas] at hnx hyes
          clear hpas
          replace hMj := hid hMj
          have xl := hid (fun wx (h : Below w.heap.size w wx) => ((hatA.out.below h).one hi2A).2.2)
          have hjt : j < tk := hlt
          have hj0 : (0 : Int) ≤ (j : Int) := by omega
          replace hi2 := hid hi2
          generalize txAt Tx j = m at *
          generalize (cntP (onP A m) L).1 = X at *
          generalize (accAt A i2).2.2 = li at *
          replace kc := hid kc
          replace kf := hid kf
          replace xm := hid xm
          go_wp2_with fail
          have kC := kc.out
          have y0 := q0.out
          have y1 := q1.out
          have y2 := q2.out
          have y3 := q3.out
          have y4 := q4.out
          replace xm := xm.out
          generalize hg3 : w.heap.size = g3 at y0 y1 y2 y3 y4 ⊢
          refine wp_region_drawn (Rel := fun w w' => Below w.heap.size w w') (Pr := PrV (pv18a ca pa (some ⟨b, o, none⟩) (some ⟨qb, qo, none⟩) cn cc pn pc ak az qk qc pol a k c g3 tb to tk tc j m X) [] (fun _ _ _ => True)) (by kernel_rfl) (by kernel_rfl) (drew_below _) bel_tr (PrV.mono (fun _ _ _ _ _ _ => trivial)) ?_ ?_
          · refine ⟨?_, ?_, ?_, ?_, ?_, ?_, ?_, ?_, ?_, ?_, ?_, ?_, trivial⟩
            · intro ac w hR hd hk K hK
              have e3 : ac.tmps[3]?.getD undef = (.pointer (some ⟨g3, 0, none⟩) : Value) := slot (get_keep (hk 3 (no_dst (by kernel_rfl))) rfl)
              have x0 := stay hR y0
              have x1 := stay hR y1
              have x2 := stay hR y2
              have x3 := stay hR y3
              have x4 := stay hR y4
              refine yes (want_n rfl) ?_
              have hv := hid (hK (.agg #[.slice ca cn cc, .slice pa pn pc, .slice (some ⟨b, o, none⟩) ak az, .slice (some ⟨qb, qo, none⟩) qk qc, .int .u8 pol]) w (PrV.is rfl rfl) (Below.refl _ _))
              go_simp
              refine kq hv.out ?_
              rfl
            · exact fun ac w hR hd hk K hK => yes (want_n rfl) (wp_mv _ rfl _ (get_keep (hk 1 (no_dst (by kernel_rfl))) rfl) (hK _ w (PrV.is rfl rfl) (Below.refl _ _)))
            · exact fun ac w hR hd hk K hK => yes (want_n rfl) (wp_mv _ rfl _ (get_keep (hk 7 (no_dst (by kernel_rfl))) rfl) (hK _ w (PrV.is rfl rfl) (Below.refl _ _)))
            · exact fun ac w hR hd hk K hK => yes (want_n rfl) (wp_mv _ rfl _ (get_keep (hk 13 (no_dst (by kernel_rfl))) rfl) (hK _ w (PrV.is rfl rfl) (Below.refl _ _)))
            · intro ac w hR hd hk K hK
              have e59 : ac.tmps[59]?.getD undef = (.slice (some ⟨tb, to, none⟩) tk tc : Value) := slot ((hd 2 _ 59 rfl rfl rfl).val rfl)
              have e60 : ac.tmps[60]?.getD undef = (.int .i64 (j : Int) : Value) := slot ((hd 3 _ 60 rfl rfl rfl).val rfl)
              have f1 := hjt
              have f2 := hj0
              refine yes (want_n rfl) ?_
              have hv := hid (hK (.pointer (some ⟨tb, to + j, none⟩)) w (PrV.is rfl rfl) (Below.refl _ _))
              go_simp
              refine kq hv.out ?_
              rfl
            · intro ac w hR hd hk K hK
              have e61 : ac.tmps[61]?.getD undef = (.pointer (some ⟨tb, to + j, none⟩) : Value) := slot ((hd 4 _ 61 rfl rfl rfl).val rfl)
              have x0 := stay hR xm
              refine yes (want_n rfl) ?_
              have hv := hid (hK (.string m) w (PrV.is rfl rfl) (Below.refl _ _))
              go_simp
              refine kq hv.out ?_
              rfl
            · exact fun ac w hR hd hk K hK => yes (want_n rfl) (wp_callv 12 _ _ rfl _ Try.func12 rfl rfl _ (args3 ((hd 0 _ 57 rfl rfl rfl).val rfl) ((hd 1 _ 58 rfl rfl rfl).val rfl) ((hd 5 _ 62 rfl rfl rfl).val rfl)) (kC w hR) (by rintro e w' ⟨rfl, hb⟩; exact ⟨_, rfl, hK _ w' (PrV.is rfl rfl) (hb)⟩))
            · exact fun ac w hR hd hk K hK => yes (want_n rfl) (wp_mv _ rfl _ ((hd 6 _ 63 rfl rfl rfl).val rfl) (hK _ w (PrV.is rfl rfl) (Below.refl _ _)))
            · intro ac w hR hd hk K hK
              have e56 : ac.tmps[56]?.getD undef = (.tuple #[.int .i64 X, .int .i64 0] : Value) := slot ((hd 7 _ 56 rfl rfl rfl).val rfl)
              refine yes (want_n rfl) ?_
              have hv := hid (hK (.int .i64 X) w (PrV.is rfl rfl) (Below.refl _ _))
              go_simp
              refine kq hv.out ?_
              rfl
            · intro ac w hR hd hk K hK
              have e56 : ac.tmps[56]?.getD undef = (.tuple #[.int .i64 X, .int .i64 0] : Value) := slot ((hd 7 _ 56 rfl rfl rfl).val rfl)
              refine yes (want_n rfl) ?_
              have hv := hid (hK (.int .i64 0) w (PrV.is rfl rfl) (Below.refl _ _))
              go_simp
              refine kq hv.out ?_
              rfl
            · exact fun ac w hR hd hk K hK => yes (want_n rfl) (wp_as _ rfl _ ((hd 8 _ 64 rfl rfl rfl).val rfl) (hK _ w (PrV.is rfl rfl) (Below.refl _ _)))
            · exact fun ac w hR hd hk K hK => yes (want_n rfl) (wp_as _ rfl _ ((hd 9 _ 65 rfl rfl rfl).val rfl) (hK _ w (PrV.is rfl rfl) (Below.refl _ _)))
          · intro a w5 hdf hsz hkp hval hRw
            obtain ⟨f, hf⟩ : ∃ f, f = fun d => a.tmps.getD d undef := ⟨_, rfl⟩
            have h14 : f 14 = .int .i64 X := by rw [hf]; exact (hval 10 _ 14 rfl rfl).val rfl
            have hfa := act_filled hdf hsz hkp
            rw [← hf] at hfa
            rw [hfa]
            clear hdf hsz hkp hval hfa hf
            clear a
            simp only [fillAll, List.set_cons_zero, List.set_cons_succ, h14]
            clear h14
            have b5 := bnext hb hRw
            have B5 := bnext Bw hRw
            replace xm := hid (stay hRw xm)
            replace y2 := hid (stay hRw y2)
            clear y0 y1 y3 y4 kC hRw
            have kf5 := hid (fun wx (h : Below w5.heap.size w5 wx) => kf.out wx (bnext B5 h))
            go_wp2_with fail
            replace xm := xm.out
            replace y2 := y2.out
            have kF := kf5.out
            refine wp_region_drawn (Rel := fun w w' => Below w.heap.size w w') (Pr := PrV (pv18b (some ⟨b, o, none⟩) ak az g3 tb to tk tc j m i2) [] (fun _ _ _ => True)) (by kernel_rfl) (by kernel_rfl) (drew_below _) bel_tr (PrV.mono (fun _ _ _ _ _ _ => trivial)) ?_ ?_
            · refine ⟨?_, ?_, ?_, ?_, ?_, ?_, ?_, ?_, ?_, ?_, ?_, ?_, trivial⟩
              · intro ac w hR hd hk K hK
                have e3 : ac.tmps[3]?.getD undef = (.pointer (some ⟨g3, 0, none⟩) : Value) := slot (get_keep (hk 3 (no_dst (by kernel_rfl))) rfl)
                refine yes (want_n rfl) ?_
                have hv := hid (hK (.pointer (some ⟨g3, 2, none⟩)) w (PrV.is rfl rfl) (Below.refl _ _))
                go_simp
                refine kq hv.out ?_
                rfl
              · intro ac w hR hd hk K hK
                have e67 : ac.tmps[67]?.getD undef = (.pointer (some ⟨g3, 2, none⟩) : Value) := slot ((hd 0 _ 67 rfl rfl rfl).val rfl)
                have x0 := stay hR y2
                refine yes (want_n rfl) ?_
                have hv := hid (hK (.slice (some ⟨b, o, none⟩) ak az) w (PrV.is rfl rfl) (Below.refl _ _))
                go_simp
                refine kq hv.out ?_
                rfl
              · exact fun ac w hR hd hk K hK => yes (want_n rfl) (wp_mv _ rfl _ (get_keep (hk 7 (no_dst (by kernel_rfl))) rfl) (hK _ w (PrV.is rfl rfl) (Below.refl _ _)))
              · exact fun ac w hR hd hk K hK => yes (want_n rfl) (wp_mv _ rfl _ (get_keep (hk 13 (no_dst (by kernel_rfl))) rfl) (hK _ w (PrV.is rfl rfl) (Below.refl _ _)))
              · intro ac w hR hd hk K hK
                have e69 : ac.tmps[69]?.getD undef = (.slice (some ⟨tb, to, none⟩) tk tc : Value) := slot ((hd 2 _ 69 rfl rfl rfl).val rfl)
                have e70 : ac.tmps[70]?.getD undef = (.int .i64 (j : Int) : Value) := slot ((hd 3 _ 70 rfl rfl rfl).val rfl)
                have f1 := hjt
                have f2 := hj0
                refine yes (want_n rfl) ?_
                have hv := hid (hK (.pointer (some ⟨tb, to + j, none⟩)) w (PrV.is rfl rfl) (Below.refl _ _))
                go_simp
                refine kq hv.out ?_
                rfl
              · intro ac w hR hd hk K hK
                have e71 : ac.tmps[71]?.getD undef = (.pointer (some ⟨tb, to + j, none⟩) : Value) := slot ((hd 4 _ 71 rfl rfl rfl).val rfl)
                have x0 := stay hR xm
                refine yes (want_n rfl) ?_
                have hv := hid (hK (.string m) w (PrV.is rfl rfl) (Below.refl _ _))
                go_simp
                refine kq hv.out ?_
                rfl
              · exact fun ac w hR hd hk K hK => yes (want_n rfl) (wp_callv 30 _ _ rfl _ Try.func30 rfl rfl _ (args2 ((hd 1 _ 68 rfl rfl rfl).val rfl) ((hd 5 _ 72 rfl rfl rfl).val rfl)) (kF w hR) (by rintro e w' ⟨rfl, hb⟩; exact ⟨_, rfl, hK _ w' (PrV.is rfl rfl) (by subst hb; exact Below.refl _ _)⟩))
              · exact fun ac w hR hd hk K hK => yes (want_n rfl) (wp_mv _ rfl _ ((hd 6 _ 73 rfl rfl rfl).val rfl) (hK _ w (PrV.is rfl rfl) (Below.refl _ _)))
              · intro ac w hR hd hk K hK
                have e66 : ac.tmps[66]?.getD undef = (.tuple #[.int .i64 (i2 : Int), .bool true] : Value) := slot ((hd 7 _ 66 rfl rfl rfl).val rfl)
                refine yes (want_n rfl) ?_
                have hv := hid (hK (.int .i64 (i2 : Int)) w (PrV.is rfl rfl) (Below.refl _ _))
                go_simp
                refine kq hv.out ?_
                rfl
              · intro ac w hR hd hk K hK
                have e66 : ac.tmps[66]?.getD undef = (.tuple #[.int .i64 (i2 : Int), .bool true] : Value) := slot ((hd 7 _ 66 rfl rfl rfl).val rfl)
                refine yes (want_n rfl) ?_
                have hv := hid (hK (.bool true) w (PrV.is rfl rfl) (Below.refl _ _))
                go_simp
                refine kq hv.out ?_
                rfl
              · exact fun ac w hR hd hk K hK => yes (want_n rfl) (wp_as _ rfl _ ((hd 8 _ 74 rfl rfl rfl).val rfl) (hK _ w (PrV.is rfl rfl) (Below.refl _ _)))
              · exact fun ac w hR hd hk K hK => yes (want_n rfl) (wp_as _ rfl _ ((hd 9 _ 75 rfl rfl rfl).val rfl) (hK _ w (PrV.is rfl rfl) (Below.refl _ _)))
            · intro a w6 hdf hsz hkp hval hRw
              obtain ⟨f, hf⟩ : ∃ f, f = fun d => a.tmps.getD d undef := ⟨_, rfl⟩
              have h16 : f 16 = .int .i64 (i2 : Int) := by rw [hf]; exact (hval 10 _ 16 rfl rfl).val rfl
              have hfa := act_filled hdf hsz hkp
              rw [← hf] at hfa
              rw [hfa]
              clear hdf hsz hkp hval hfa hf
              clear a
              simp only [fillAll, List.set_cons_zero, List.set_cons_succ, h16]
              clear h16
              have b6 := bnext b5 hRw
              have B6 := bnext B5 hRw
              replace y2 := stay hRw y2
              have xlim := xl.out w6 B6
              subst hg3
              clear xm kF hRw
              by_cases h0 : 0 ≤ li
              · have d0 : decide (0 ≤ li) = true := by simpa using h0
                have d0' : decide (-1 < li) = true := decide_eq_true (by omega)
                by_cases h1 : li < wrap64 (X + R)
                · have d1 : decide (li < wrap64 (X + R)) = true := by simpa using h1
                  have hf1 := hid (hyes.out (by rw [d0', d1]; rfl))
                  replace h1 := hid h1
                  go_wp2
                  go_ret
                  rw [hans.out, hf1.out]
                  exact ⟨rfl, B6⟩
                · have d1 : decide (li < wrap64 (X + R)) = false := by simpa using h1
                  have hok2 := hid (hnx.out (by rw [d0', d1]; rfl))
                  replace h1 := hid h1
                  replace hok := hid hok
                  go_wp2_with fail
                  go_roundw
                  case rel => exact ⟨j + 1, by omega, by go_num, hok2, b6⟩
                  case measure => simp [intOf]; omega
              · have d0 : decide (0 ≤ li) = false := by simpa using h0
                have d0' : decide (-1 < li) = false := decide_eq_false (by omega)
                have hok2 := hid (hnx.out (by rw [d0']; rfl))
                replace hok := hid hok
                go_wp2_with fail
                go_roundw
                case rel => exact ⟨j + 1, by omega, by go_num, hok2, b6⟩
                case measure => simp [intOf]; omega
        · have hje : j = tk := by omega
          subst hje
          have hno : Hid ((Tx.map bd).any pasB = false) := hid (by
            have := hok.out
            unfold PassB at this
            rw [← hTl.out, ← List.length_map (f := bd), List.take_length] at this
            exact this)
          obtain ⟨z0, z1, z2, z3⟩ := zs.out wr Bw
          replace z0 := hid z0
          replace z1 := hid z1
          replace z2 := hid z2
          replace z3 := hid z3
          have kqq := hid (fun wx (h : Below wr.heap.size wr wx) => kQp.out wx (bnext Bw h))
          go_wp2_with fail
          replace z0 := z0.out
          replace z1 := z1.out
          replace z2 := z2.out
          replace z3 := z3.out
          have kQ := kqq.out
          have y3 := q3.out
          have s2 := qs2.out
          generalize hg5 : w.heap.size + 1 = g5 at s2 ⊢
          generalize hg3 : w.heap.size = g3 at y3 ⊢
          generalize s.qos = sx at *
          refine Fr.wp_region_front 10 (Rel := fun w w' => Below w.heap.size w w') (Pr := PrV (pv18c g3 g5 qb qo qk qc sx i nm pr lm jm) [9] (fun _ v w' => ∃ g, v = .pointer (some ⟨g, 0, none⟩) ∧ w'.heap[g]? = some (.cells #[.string ⟨#[]⟩, .int .i64 0, .int .i64 0, .int .i64 0] 59 (0, 0)) ∧ wr.heap.size ≤ g)) (by kernel_rfl) (by kernel_rfl) (drew_below _) bel_tr (PrV.mono (fun _ _ _ _ h hb => by obtain ⟨g, e, hg, hle⟩ := h; exact ⟨g, e, by rw [hb.block _ (Array.getElem?_eq_some_iff.1 hg).1]; exact hg, hle⟩)) ?_ (by kernel_rfl) ?_
          · refine ⟨?_, ?_, ?_, ?_, ?_, ?_, ?_, ?_, ?_, ?_, trivial⟩
            · intro ac w hR hd hk K hK
              have e3 : ac.tmps[3]?.getD undef = (.pointer (some ⟨g3, 0, none⟩) : Value) := slot (get_keep (hk 3 (no_dst (by kernel_rfl))) rfl)
              refine yes (want_n rfl) ?_
              have hv := hid (hK (.pointer (some ⟨g3, 3, none⟩)) w (PrV.is rfl rfl) (Below.refl _ _))
              go_simp
              refine kq hv.out ?_
              rfl
            · intro ac w hR hd hk K hK
              have e95 : ac.tmps[95]?.getD undef = (.pointer (some ⟨g3, 3, none⟩) : Value) := slot ((hd 0 _ 95 rfl rfl rfl).val rfl)
              have x0 := stay hR y3
              refine yes (want_n rfl) ?_
              have hv := hid (hK (.slice (some ⟨qb, qo, none⟩) qk qc) w (PrV.is rfl rfl) (Below.refl _ _))
              go_simp
              refine kq hv.out ?_
              rfl
            · intro ac w hR hd hk K hK
              have e3 : ac.tmps[3]?.getD undef = (.pointer (some ⟨g3, 0, none⟩) : Value) := slot (get_keep (hk 3 (no_dst (by kernel_rfl))) rfl)
              refine yes (want_n rfl) ?_
              have hv := hid (hK (.pointer (some ⟨g3, 3, none⟩)) w (PrV.is rfl rfl) (Below.refl _ _))
              go_simp
              refine kq hv.out ?_
              rfl
            · intro ac w hR hd hk K hK
              have e97 : ac.tmps[97]?.getD undef = (.pointer (some ⟨g3, 3, none⟩) : Value) := slot ((hd 2 _ 97 rfl rfl rfl).val rfl)
              have x0 := stay hR y3
              refine yes (want_n rfl) ?_
              have hv := hid (hK (.slice (some ⟨qb, qo, none⟩) qk qc) w (PrV.is rfl rfl) (Below.refl _ _))
              go_simp
              refine kq hv.out ?_
              rfl
            · intro ac w hR hd hk K hK
              have e5 : ac.tmps[5]?.getD undef = (.pointer (some ⟨g5, 0, none⟩) : Value) := slot (get_keep (hk 5 (no_dst (by kernel_rfl))) rfl)
              refine yes (want_n rfl) ?_
              have hv := hid (hK (.pointer (some ⟨g5, 2, none⟩)) w (PrV.is rfl rfl) (Below.refl _ _))
              go_simp
              refine kq hv.out ?_
              rfl
            · intro ac w hR hd hk K hK
              have e99 : ac.tmps[99]?.getD undef = (.pointer (some ⟨g5, 2, none⟩) : Value) := slot ((hd 4 _ 99 rfl rfl rfl).val rfl)
              have x0 := stay hR s2
              refine yes (want_n rfl) ?_
              have hv := hid (hK (.string sx) w (PrV.is rfl rfl) (Below.refl _ _))
              go_simp
              refine kq hv.out ?_
              rfl
            · exact fun ac w hR hd hk K hK => yes (want_n rfl) (wp_callv 35 _ _ rfl _ Try.func35 rfl rfl _ (args2 ((hd 3 _ 98 rfl rfl rfl).val rfl) ((hd 5 _ 100 rfl rfl rfl).val rfl)) (kQ w hR) (by rintro e w' ⟨rfl, hb⟩; exact ⟨_, rfl, hK _ w' (PrV.is rfl rfl) (by subst hb; exact Below.refl _ _)⟩))
            · intro ac w hR hd hk K hK
              have e96 : ac.tmps[96]?.getD undef = (.slice (some ⟨qb, qo, none⟩) qk qc : Value) := slot ((hd 1 _ 96 rfl rfl rfl).val rfl)
              have e101 : ac.tmps[101]?.getD undef = (.int .i64 (i : Int) : Value) := slot ((hd 6 _ 101 rfl rfl rfl).val rfl)
              have f1 := hik
              have f2 := hiz
              refine yes (want_n rfl) ?_
              have hv := hid (hK (.pointer (some ⟨qb, qo + i * 4, none⟩)) w (PrV.is rfl rfl) (Below.refl _ _))
              go_simp
              refine kq hv.out ?_
              rfl
            · intro ac w hR hd hk K hK
              have e102 : ac.tmps[102]?.getD undef = (.pointer (some ⟨qb, qo + i * 4, none⟩) : Value) := slot ((hd 7 _ 102 rfl rfl rfl).val rfl)
              have x0 := stay hR z0
              have x1 := stay hR z1
              have x2 := stay hR z2
              have x3 := stay hR z3
              refine yes (want_n rfl) ?_
              have hv := hid (hK (.agg #[.string nm, .int .i64 pr, .int .i64 lm, .int .i64 jm]) w (PrV.is rfl rfl) (Below.refl _ _))
              go_simp
              refine kq hv.out ?_
              rfl
            · intro ac w hR hd hk K hK
              refine yes (want_n rfl) ?_
              go_simp
              exact hK _ _ (PrV.by rfl ⟨w.heap.size, rfl, heap_alloc_new _ _, hR.size⟩) (below_lit _ _)
          · intro ac1 w5 hdf hsz1 hkp hval hRw
            obtain ⟨g, q18, hgz, hgl⟩ := (hval 9 _ 18 rfl rfl).out rfl
            have q103 : ac1.tmps.getD 103 undef = (.agg #[.string nm, .int .i64 pr, .int .i64 lm, .int .i64 jm] : Value) := (hval 8 _ 103 rfl rfl).val rfl
            obtain ⟨f, hf2⟩ : ∃ f, f = fun d => ac1.tmps.getD d undef := ⟨_, rfl⟩
            have h18 : f 18 = (.pointer (some ⟨g, 0, none⟩) : Value) := by rw [hf2]; exact q18
            have h103 : f 103 = (.agg #[.string nm, .int .i64 pr, .int .i64 lm, .int .i64 jm] : Value) := by rw [hf2]; exact q103
            have hfa := act_filled hdf hsz1 hkp
            rw [← hf2] at hfa
            rw [hfa]
            clear hdf hsz1 hkp hval hfa hf2 q18 q103
            clear ac1
            simp only [fillAll, List.take, List.set_cons_zero, List.set_cons_succ, h18, h103]
            clear h18 h103
            have B5 := bnext Bw hRw
            change wpAny Try.prog .any _ _ (0 + 1) _ _ _
            refine wpAny_ready (rs := [10]) (by kernel_rfl) (by simp) ?_
            refine AllReady.cons rfl (fun K hK => ?_) AllReady.nil
            refine yes (want_n rfl) ?_
            refine wp_store_row 59 (.tmp 18) (.tmp 103) rfl g #[.string nm, .int .i64 pr, .int .i64 lm, .int .i64 jm] rfl rfl 59 _ hgz (by kernel_rfl) rfl (by simp [Value.oneCell']) ?_
            refine hK _ _ ?_
            clear hK K
            refine wpAny_done (by kernel_rfl) ?_ _
            have B6 : Below w.heap.size w (w5.setRow g #[.string nm, .int .i64 pr, .int .i64 lm, .int .i64 jm]) := below_setRow B5 (by have := Bw.size; omega) _
            have hrow := setRow_heap w5 g _ #[.string nm, .int .i64 pr, .int .i64 lm, .int .i64 jm] _ _ hgz
            have p2 := row_cell hrow 2 (.int .i64 lm) rfl
            have p3 := row_cell hrow 3 (.int .i64 jm) rfl
            generalize w5.setRow g #[.string nm, .int .i64 pr, .int .i64 lm, .int .i64 jm] = w6 at *
            replace hrow := hid hrow
            subst hg3
            clear z0 z1 z2 z3 y3 s2 kQ hRw hgz
            have hpas : ∀ x y : Int, pasB (x, y) = (decide (-1 < x) && decide (x < y)) := fun _ _ => rfl
            have hany : Hid (([(lm, wrap64 (X2 + R)), (jm, ((Y2 + 1 : Nat) : Int))] : List Bd).any pasB = ((decide (-1 < lm) && decide (lm < wrap64 (X2 + R))) || (decide (-1 < jm) && decide (jm < ((Y2 + 1 : Nat) : Int))))) := hid (by simp only [List.any_cons, List.any_nil, hpas, Bool.or_false])
            clear hpas
            have e1 : decide (0 ≤ lm) = decide (-1 < lm) := decide_eq_decide.2 (by omega)
            have e2 : decide (0 ≤ jm) = decide (-1 < jm) := decide_eq_decide.2 (by omega)
            have e3 : decide (jm ≤ (Y2 : Int)) = decide (jm < ((Y2 + 1 : Nat) : Int)) := decide_eq_decide.2 (by omega)
            rw [← e1, ← e2, ← e3] at hany
            clear e1 e2 e3
            by_cases h0 : 0 ≤ lm
            · have d0 : decide (0 ≤ lm) = true := by simpa using h0
              by_cases h1 : lm < wrap64 (X2 + R)
              · have d1 : decide (lm < wrap64 (X2 + R)) = true := by simpa using h1
                replace h1 := hid h1
                go_wp2
                go_ret
                rw [hans.out, hno.out, hany.out, d0, d1]
                exact ⟨rfl, B6⟩
              · have d1 : decide (lm < wrap64 (X2 + R)) = false := by simpa using h1
                replace h1 := hid h1
                by_cases h2 : 0 ≤ jm
                · have d2 : decide (0 ≤ jm) = true := by simpa using h2
                  by_cases h3 : jm ≤ (Y2 : Int)
                  · have d3 : decide (jm ≤ (Y2 : Int)) = true := by simpa using h3
                    go_wp2
                    go_ret
                    rw [hans.out, hno.out, hany.out, d0, d1, d2, d3]
                    exact ⟨rfl, B6⟩
                  · have d3 : decide (jm ≤ (Y2 : Int)) = false := by simpa using h3
                    go_wp2
                    go_ret
                    rw [hans.out, hno.out, hany.out, d0, d1, d2, d3]
                    exact ⟨rfl, B6⟩
                · have d2 : decide (0 ≤ jm) = false := by simpa using h2
                  go_wp2
                  go_ret
                  rw [hans.out, hno.out, hany.out, d0, d1, d2]
                  exact ⟨rfl, B6⟩
            · have d0 : decide (0 ≤ lm) = false := by simpa using h0
              by_cases h2 : 0 ≤ jm
              · have d2 : decide (0 ≤ jm) = true := by simpa using h2
                by_cases h3 : jm ≤ (Y2 : Int)
                · have d3 : decide (jm ≤ (Y2 : Int)) = true := by simpa using h3
                  go_wp2
                  go_ret
                  rw [hans.out, hno.out, hany.out, d0, d2, d3]
                  exact ⟨rfl, B6⟩
                · have d3 : decide (jm ≤ (Y2 : Int)) = false := by simpa using h3
                  go_wp2
                  go_ret
                  rw [hans.out, hno.out, hany.out, d0, d2, d3]
                  exact ⟨rfl, B6⟩
              · have d2 : decide (0 ≤ jm) = false := by simpa using h2
                go_wp2
                go_ret
                rw [hans.out, hno.out, hany.out, d0, d2]
                exact ⟨rfl, B6⟩

end Go.Proofs.Ytpebhjncdfcmnaa
