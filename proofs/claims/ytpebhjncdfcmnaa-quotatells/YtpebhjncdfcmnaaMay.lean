/- Whether one more job may run. -/
import Derived.Test.YtpebhjncdfcmnaaUse
namespace Go.Proofs.Ytpebhjncdfcmnaa
open Go.RowKit
set_option linter.unusedVariables false

def limOf (A : List Acc) (n : ByteArray) : Int := match fi A n with
  | none => 0
  | some i => (accAt A i).2.2
theorem limOf_eq {A : List Acc} {n : ByteArray} {i : Nat} (h : fi A n = some i) : limOf A n = (accAt A i).2.2 := by unfold limOf; rw [h]
/-- The limit of an account, and what would be used of it. -/
def abd (A : List Acc) (L : List Job) (s : Spc) (n : ByteArray) : Bd := (limOf A n, wrap64 ((cntP (onP A n) L).1 + cor s))

def pv42 (va : Option Addr) (j vc b o ak az i : Nat) (a : Option Addr) (k c : Nat) (m : ByteArray) (g7 : Nat) (lm X R : Int) (s : Spc) : List Value := [.slice va j vc, .slice (some ⟨b, o, none⟩) ak az, .int .i64 (i : Int), .pointer (some ⟨b, o + i * 3, none⟩), .pointer (some ⟨b, o + i * 3 + 2, none⟩), .int .i64 lm, .slice (some ⟨b, o, none⟩) ak az, .slice a k c, .string m, .int .i64 X, .agg (sc s).toArray, .int .i64 R, .int .i64 (wrap64 (X + R)), .agg #[.int .i64 lm, .int .i64 (wrap64 (X + R))], undef]

theorem own_n {w : World} {base n : Nat} {v : Value} {D : List Bd} (h : BOwn w base v D) (hn : D.length = n) : w.ownsRow base 102 2 v n (D.flatMap bc) := by subst hn; exact h
theorem own_snoc {w : World} {base n : Nat} {v : Value} {D : List Bd} {x y : Int} (hn : D.length = n) (h : w.ownsRow base 102 2 v (n + 1) (D.flatMap bc ++ [.int .i64 x, .int .i64 y])) : BOwn w base v (D ++ [(x, y)]) := by
  subst hn
  unfold BOwn
  rw [List.length_append, List.flatMap_append]
  exact h
theorem two_one (x y : Int) : ∀ u ∈ [Value.int .i64 x, .int .i64 y], u.oneCell' = true := by
  intro u hu
  simp at hu
  rcases hu with rfl | rfl <;> rfl

set_option maxRecDepth 100000 in
set_option maxHeartbeats 4000000 in
theorem onpath_any (aa : Option Addr) (ak az : Nat) (A : List Acc) (a : Option Addr) (k c : Nat) (L : List Job) (ta : Option Addr) (tk tc : Nat) (Tx : List ByteArray) (s : Spc) (w : World) (hA : A.length = ak) (hac : ak ≤ az) (hatA : AAt w aa A) (hn : L.length = k) (hl : k ≤ 4611686018427387904) (hat : JAt w a L) (hT : Tx.length = tk) (hTl : tk ≤ 16) (hTat : TAt w ta Tx) (hR : rightB A = true) (hTm : ∀ n ∈ Tx, ∃ i, fi A n = some i) :
    Calls Try.prog 42 #[.slice aa ak az, .slice a k c, .slice ta tk tc, .agg (sc s).toArray] w fun e w' => ∃ ra rc, e = .returned (.slice ra tk rc) ∧ BAt w' ra (Tx.map (abd A L s)) ∧ Below w.heap.size w w' := by
  obtain ⟨i0, hi, hz0, hz1, hz2⟩ := info_parts info102
  have hl16 : ak ≤ 16 := by rw [← hA]; exact (right_is.1 hR).2.1
  have hl1 : 1 ≤ ak := by rw [← hA]; exact (right_is.1 hR).1
  obtain ⟨b, o, e⟩ := hatA.place (by omega)
  subst e
  obtain ⟨W0, hW0⟩ : ∃ W0, W0 = w.alloc (.cells (sc s).toArray 32) := ⟨_, rfl⟩
  have bl := below_lit w (.cells (sc s).toArray 32)
  have hsp0 := lit_range w 32 (sc s)
  rw [← hW0] at bl hsp0
  have kF := fun n w2 (h : Below w.heap.size w w2) => find_any (some ⟨b, o, none⟩) ak az A n w2 hA (by omega) (hatA.below h)
  have kA0 := fun n (he : errP A n = 0) w2 (h : Below w.heap.size w w2) => ofacc_any (some ⟨b, o, none⟩) ak az A a k c L n w2 hA hac (hatA.below h) he hn hl (hat.below h)
  have cores64r := fun w => cores64 s w
  have hab := hid (fun n => show abd A L s n = (limOf A n, wrap64 ((cntP (onP A n) L).1 + cor s)) from rfl)
  generalize abd A L s = bd at *
  generalize cor s = R at *
  replace hA := hid hA
  replace hatA := hid hatA
  replace hn := hid hn
  replace hat := hid hat
  replace hT := hid hT
  replace hTat := hid hTat
  replace hR := hid hR
  replace hTm := hid hTm
  replace hsp0 := hid hsp0
  replace kF := hid kF
  replace kA0 := hid kA0
  replace cores64r := hid cores64r
  go_enter Try.func42, Try.ntmps42
  go_wp2_with fail
  rw [← hW0]
  replace hW0 := hid hW0
  go_loopw [9, 16] (fun v i wr => ∃ j : Nat, j ≤ tk ∧ i = .int .i64 (j : Int) ∧ Hid (BOwn wr W0.heap.size v ((Tx.take j).map bd)) ∧ Hid (Below W0.heap.size W0 wr)) (fun _ i _ => tk - (intOf i).toNat)
  case atStart => exact ⟨0, Nat.zero_le _, rfl, hid (BOwn.nil _ _), hid (Below.refl _ _)⟩
  case round =>
    obtain ⟨j, hj, rfl, hown, hbs⟩ := hrel
    have hb := bnext bl hbs.out
    have hDl : Hid (((Tx.take j).map bd).length = j) := hid (by rw [List.length_map, List.length_take]; have := hT.out; omega)
    obtain ⟨va, vc, e, hvc⟩ := owns_form hown.out
    subst e
    rw [hDl.out] at hown hvc ⊢
    by_cases hlt : j < tk
    · have hjT : j < Tx.length := by rw [hT.out]; exact hlt
      obtain ⟨tb, to, e⟩ := hTat.out.place (by omega)
      subst e
      have x0 := (hTat.out.below hb).one hjT
      obtain ⟨i, hfi⟩ := hTm.out Tx[j] (List.getElem_mem hjT)
      rw [txAt_eq hjT] at hfi
      have kf := kF.out (txAt Tx j) wr hb
      rw [hfi] at kf
      simp only [FRet] at kf
      have kA1 := kA0.out (txAt Tx j) (err_of hR.out hfi)
      have hlim := limOf_eq hfi
      have hbd := hab.out (txAt Tx j)
      have hiA := fi_lt hfi
      have hik : i < ak := by rw [← hA.out]; exact hiA
      have hiz : (0 : Int) ≤ (i : Int) := by omega
      have hnext : Hid ((Tx.take (j + 1)).map bd = (Tx.take j).map bd ++ [(limOf A (txAt Tx j), wrap64 ((cntP (onP A (txAt Tx j)) L).1 + R))]) := hid (by rw [take_more hjT, List.map_append, txAt_eq hjT, List.map_cons, List.map_nil, hbd])
      rw [hlim] at hnext
      have x2w := fun w2 (h : Below w.heap.size w w2) => ((hatA.out.below h).one hiA).2.2
      generalize (cntP (onP A (txAt Tx j)) L).1 = X at *
      generalize (accAt A i).2.2 = lm at *
      replace hlim := hid hlim
      replace hbd := hid hbd
      replace hfi := hid hfi
      replace kA1 := hid kA1
      replace x2w := hid x2w
      generalize txAt Tx j = m at *
      generalize (Tx.take j).map bd = D at *
      go_wp2_with fail
      refine kf.mono ?_
      rintro e w2 ⟨rfl, hb1⟩
      have hb2 := bnext hb hb1
      have x2 := x2w.out w2 hb2
      have kA := fun w3 (h : Below w2.heap.size w2 w3) => kA1.out w3 (bnext hb2 h)
      have hsp := range_below hsp0.out (bnext hbs.out hb1)
      replace x2 := hid x2
      replace kA := hid kA
      replace hsp := hid hsp
      replace hb1 := hid hb1
      go_wp2_with fail
      replace x2 := x2.out
      replace kA := kA.out
      replace hsp := hsp.out
      replace hb1 := hb1.out
      replace cores64r := cores64r.out
      generalize hg7 : w.heap.size = g7 at hsp ⊢
      refine Fr.wp_region_front 15 (Rel := fun w w' => Below w.heap.size w w') (Pr := PrV (pv42 va j vc b o ak az i a k c m g7 lm X R s) [14] (fun _ v w' => ∃ g, v = .slice (some ⟨g, 0, none⟩) 1 1 ∧ CAt w' (some ⟨g, 0, none⟩) [.int .i64 lm, .int .i64 (wrap64 (X + R))])) (by kernel_rfl) (by kernel_rfl) (drew_below _) bel_tr (PrV.mono (fun _ _ _ _ h hb => by obtain ⟨g, e, hc⟩ := h; exact ⟨g, e, CAt.below hc hb⟩)) ?_ (by kernel_rfl) ?_
      · refine ⟨?_, ?_, ?_, ?_, ?_, ?_, ?_, ?_, ?_, ?_, ?_, ?_, ?_, ?_, ?_, trivial⟩
        · exact fun ac w hR hd hk K hK => yes (want_n rfl) (wp_mv _ rfl _ (get_keep (hk 9 (no_dst (by kernel_rfl))) rfl) (hK _ w (PrV.is rfl rfl) (Below.refl _ _)))
        · exact fun ac w hR hd hk K hK => yes (want_n rfl) (wp_mv _ rfl _ (get_keep (hk 0 (no_dst (by kernel_rfl))) rfl) (hK _ w (PrV.is rfl rfl) (Below.refl _ _)))
        · exact fun ac w hR hd hk K hK => yes (want_n rfl) (wp_mv _ rfl _ (get_keep (hk 12 (no_dst (by kernel_rfl))) rfl) (hK _ w (PrV.is rfl rfl) (Below.refl _ _)))
        · intro ac w hR hd hk K hK
          have e28 : ac.tmps[28]?.getD undef = (.slice (some ⟨b, o, none⟩) ak az : Value) := slot ((hd 1 _ 28 rfl rfl rfl).val rfl)
          have e29 : ac.tmps[29]?.getD undef = (.int .i64 (i : Int) : Value) := slot ((hd 2 _ 29 rfl rfl rfl).val rfl)
          have hi1 := hik
          have hi2 := hiz
          refine yes (want_n rfl) ?_
          have hv := hid (hK (.pointer (some ⟨b, o + i * 3, none⟩)) w (PrV.is rfl rfl) (Below.refl _ _))
          go_simp
          refine kq hv.out ?_
          rfl
        · intro ac w hR hd hk K hK
          have e30 : ac.tmps[30]?.getD undef = (.pointer (some ⟨b, o + i * 3, none⟩) : Value) := slot ((hd 3 _ 30 rfl rfl rfl).val rfl)
          refine yes (want_n rfl) ?_
          have hv := hid (hK (.pointer (some ⟨b, o + i * 3 + 2, none⟩)) w (PrV.is rfl rfl) (Below.refl _ _))
          go_simp
          refine kq hv.out ?_
          rfl
        · intro ac w hR hd hk K hK
          have e31 : ac.tmps[31]?.getD undef = (.pointer (some ⟨b, o + i * 3 + 2, none⟩) : Value) := slot ((hd 4 _ 31 rfl rfl rfl).val rfl)
          have x0 := stay hR x2
          refine yes (want_n rfl) ?_
          have hv := hid (hK (.int .i64 lm) w (PrV.is rfl rfl) (Below.refl _ _))
          go_simp
          refine kq hv.out ?_
          rfl
        · exact fun ac w hR hd hk K hK => yes (want_n rfl) (wp_mv _ rfl _ (get_keep (hk 0 (no_dst (by kernel_rfl))) rfl) (hK _ w (PrV.is rfl rfl) (Below.refl _ _)))
        · exact fun ac w hR hd hk K hK => yes (want_n rfl) (wp_mv _ rfl _ (get_keep (hk 1 (no_dst (by kernel_rfl))) rfl) (hK _ w (PrV.is rfl rfl) (Below.refl _ _)))
        · exact fun ac w hR hd hk K hK => yes (want_n rfl) (wp_mv _ rfl _ (get_keep (hk 11 (no_dst (by kernel_rfl))) rfl) (hK _ w (PrV.is rfl rfl) (Below.refl _ _)))
        · exact fun ac w hR hd hk K hK => yes (want_n rfl) (wp_callv 29 _ _ rfl _ Try.func29 rfl rfl _ (args3 ((hd 6 _ 33 rfl rfl rfl).val rfl) ((hd 7 _ 34 rfl rfl rfl).val rfl) ((hd 8 _ 35 rfl rfl rfl).val rfl)) (kA w hR) (by rintro e w' ⟨rfl, hb⟩; exact ⟨_, rfl, hK _ w' (PrV.is rfl rfl) (hb)⟩))
        · exact fun ac w hR hd hk K hK => yes (want_n rfl) (wp_load_mid 32 _ rfl g7 0 (get_keep (hk 7 (no_dst (by kernel_rfl))) rfl) (sc s) _ (range_below hsp hR) Try.underlying32 rfl (by kernel_rfl) (hK _ w (PrV.is rfl rfl) (Below.refl _ _)))
        · exact fun ac w hR hd hk K hK => yes (want_n rfl) (wp_callv 64 _ _ rfl _ Try.func64 rfl rfl _ (args1 ((hd 10 _ 37 rfl rfl rfl).val rfl)) (cores64r w) (by rintro e w' ⟨rfl, hb⟩; exact ⟨_, rfl, hK _ w' (PrV.is rfl rfl) (hb)⟩))
        · intro ac w hR hd hk K hK
          have e36 : ac.tmps[36]?.getD undef = (.int .i64 X : Value) := slot ((hd 9 _ 36 rfl rfl rfl).val rfl)
          have e38 : ac.tmps[38]?.getD undef = (.int .i64 R : Value) := slot ((hd 11 _ 38 rfl rfl rfl).val rfl)
          refine yes (want_n rfl) ?_
          have hv := hid (hK (.int .i64 (wrap64 (X + R))) w (PrV.is rfl rfl) (Below.refl _ _))
          go_simp
          refine kq hv.out ?_
          exact congrArg (Value.int .i64) (wrapEq _).symm
        · intro ac w hR hd hk K hK
          have e32 : ac.tmps[32]?.getD undef = (.int .i64 lm : Value) := slot ((hd 5 _ 32 rfl rfl rfl).val rfl)
          have e39 : ac.tmps[39]?.getD undef = (.int .i64 (wrap64 (X + R)) : Value) := slot ((hd 12 _ 39 rfl rfl rfl).val rfl)
          refine yes (want_n rfl) ?_
          have hv := hid (hK (.agg #[.int .i64 lm, .int .i64 (wrap64 (X + R))]) w (PrV.is rfl rfl) (Below.refl _ _))
          go_simp
          refine kq hv.out ?_
          rfl
        · intro ac w hR hd hk K hK
          have e40 : ac.tmps[40]?.getD undef = (.agg #[.int .i64 lm, .int .i64 (wrap64 (X + R))] : Value) := slot ((hd 13 _ 40 rfl rfl rfl).val rfl)
          refine yes (want_n rfl) ?_
          go_simp
          exact hK _ _ (PrV.by rfl ⟨w.heap.size, rfl, cat_lit _ _ [.int .i64 lm, .int .i64 (wrap64 (X + R))] _ rfl⟩) (below_lit _ _)
      · intro ac1 w1 hdf hsz hkp hval hRw
        obtain ⟨g, q41, hcat⟩ := (hval 14 _ 41 rfl rfl).out rfl
        have q27 : ac1.tmps.getD 27 undef = (.slice va j vc : Value) := (hval 0 _ 27 rfl rfl).val rfl
        obtain ⟨f, hf⟩ : ∃ f, f = fun d => ac1.tmps.getD d undef := ⟨_, rfl⟩
        have h41 : f 41 = (.slice (some ⟨g, 0, none⟩) 1 1 : Value) := by rw [hf]; exact q41
        have h27 : f 27 = (.slice va j vc : Value) := by rw [hf]; exact q27
        have hfa := act_filled hdf hsz hkp
        rw [← hf] at hfa
        rw [hfa]
        clear hdf hsz hkp hval hfa hf q41 q27
        clear ac1
        simp only [fillAll, List.take, List.set_cons_zero, List.set_cons_succ, h41, h27]
        clear h41 h27
        have D1 := bnext (bnext hbs.out hb1) hRw
        have hown1 := hown.out.below (bnext hb1 hRw)
        change wpAny Try.prog .any _ _ (0 + 1 + 1) _ _ _
        refine wpAny_ready (rs := [15]) (by kernel_rfl) (by simp) ?_
        refine AllReady.cons rfl (fun K hK => ?_) AllReady.nil
        refine step_cat rfl (.tmp 27) (.tmp 41) 81 rfl W0.heap.size 102 i0 _ 2 16 Try.underlying81 hi hz0 hz1 hz2 rfl (by omega) (.slice va j vc) j _ rfl (own_n hown1 hDl.out) (some ⟨g, 0, none⟩) 1 1 [.int .i64 lm, .int .i64 (wrap64 (X + R))] rfl rfl hcat (two_one _ _) (by unfold maxLen; omega) (by omega) D1.size ?_
        intro v' w2 ho2 hg2 hv2
        refine hK _ _ ?_
        clear hK K
        have hown2 : BOwn w2 W0.heap.size v' (D ++ [(lm, wrap64 (X + R))]) := own_snoc hDl.out ho2
        have D2 : Below W0.heap.size W0 w2 := Below.grown D1 hg2 D1.size (fun q hq => (hown1.lt _ hq).1)
        clear ho2 hg2 hv2 hown1
        replace hown2 := hid hown2
        change wpAny Try.prog .any _ _ (0 + 1) _ (Act.put _ (some 42) v') w2
        simp only [Act.put, List.setIfInBounds_toArray, List.set_cons_zero, List.set_cons_succ]
        refine wpAny_ready (rs := [16]) (by kernel_rfl) (by simp) ?_
        refine AllReady.cons rfl (fun K hK => ?_) AllReady.nil
        go_simp
        refine hK _ _ ?_
        clear hK K
        refine wpAny_done (by kernel_rfl) ?_ _
        obtain ⟨va2, vc2, e, hvc2⟩ := owns_form hown2.out
        subst e
        subst hg7
        go_wp2_with fail
        go_roundw
        case rel => exact ⟨j + 1, by omega, by go_num, hid (by rw [hnext.out]; exact hown2.out), hid D2⟩
        case measure => simp [intOf]; omega
    · have hje : j = tk := by omega
      subst hje
      have hf : (Tx.take j).map bd = Tx.map bd := by rw [← hT.out, List.take_length]
      rw [hf] at hown
      replace hf := hid hf
      go_wp2
      go_ret
      exact ⟨va, vc, rfl, hown.out.bat, hb⟩

/-- What May answers. -/
def mayP (A : List Acc) (Q : List Qu) (L : List Job) (s : Spc) : Int :=
  if confB A Q = true then (match fi A s.acct, qi Q s.qos with
    | some _, some i => if (((pathP A s.acct).map (abd A L s)).any pasB || (qbd (quAt Q i) L s).any pasB) = true then 150 else 0
    | _, _ => 141) else 2

theorem args4 {a : Act} {x y z u : Operand} {v1 v2 v3 v4 : Value} (h : a.eval x = v1) (k : a.eval y = v2) (l : a.eval z = v3) (m : a.eval u = v4) : #[x, y, z, u].map a.eval = #[v1, v2, v3, v4] := by simp [h, k, l, m]

set_option maxRecDepth 100000 in
set_option maxHeartbeats 1000000 in
theorem may_arg (ca pa aa qa : Option Addr) (cn cc pn pc ak az qk qc : Nat) (pol : Int) (A : List Acc) (Q : List Qu) (a : Option Addr) (k c : Nat) (L : List Job) (s : Spc) (w : World) (hA : A.length = ak) (hac : ak ≤ az) (hQ : Q.length = qk) (hatA : AAt w aa A) (hatQ : QAt w qa Q) (hn : L.length = k) (hl : k ≤ 4611686018427387904) (hat : JAt w a L) (hR : confB A Q = false) :
    Calls Try.prog 17 #[.agg #[.slice ca cn cc, .slice pa pn pc, .slice aa ak az, .slice qa qk qc, .int .u8 pol], .slice a k c, .agg (sc s).toArray] w fun e w' => e = .returned (.int .i64 2) ∧ Below w.heap.size w w' := by
  obtain ⟨W0, hW0⟩ : ∃ W0, W0 = (w.alloc (.cells #[.slice ca cn cc, .slice pa pn pc, .slice aa ak az, .slice qa qk qc, .int .u8 pol] 28)).alloc (.cells (sc s).toArray 32) := ⟨_, rfl⟩
  have bl0 := below_lit w (.cells #[.slice ca cn cc, .slice pa pn pc, .slice aa ak az, .slice qa qk qc, .int .u8 pol] 28)
  have bl1 := below_lit (w.alloc (.cells #[.slice ca cn cc, .slice pa pn pc, .slice aa ak az, .slice qa qk qc, .int .u8 pol] 28)) (.cells (sc s).toArray 32)
  have bl := bnext bl0 bl1
  have k1 := conf_any ca pa aa qa cn cc pn pc ak az qk qc pol A Q _ hA hac hQ (hatA.below bl) (hatQ.below bl)
  have y2 := stay bl1 (lit_cell w 28 #[.slice ca cn cc, .slice pa pn pc, .slice aa ak az, .slice qa qk qc, .int .u8 pol] 2 (.slice aa ak az) rfl)
  have y3 := stay bl1 (lit_cell w 28 #[.slice ca cn cc, .slice pa pn pc, .slice aa ak az, .slice qa qk qc, .int .u8 pol] 3 (.slice qa qk qc) rfl)
  have cl := range_below (lit_range w 28 [.slice ca cn cc, .slice pa pn pc, .slice aa ak az, .slice qa qk qc, .int .u8 pol]) bl1
  have v0 := cl 0 _ rfl
  have v1 := cl 1 _ rfl
  have v2 := cl 2 _ rfl
  have v3 := cl 3 _ rfl
  have v4 := cl 4 _ rfl
  simp only [Nat.zero_add] at v0 v1 v2 v3 v4
  have hsp := lit_range (w.alloc (.cells #[.slice ca cn cc, .slice pa pn pc, .slice aa ak az, .slice qa qk qc, .int .u8 pol] 28)) 32 (sc s)
  rw [size_lit] at hsp
  rw [← hW0] at bl k1 y2 y3 v0 v1 v2 v3 v4 hsp
  have s1 := hsp 1 (.string s.acct) rfl
  have s2 := hsp 2 (.string s.qos) rfl
  simp only [Nat.zero_add] at s1 s2
  clear bl0 bl1 cl
  rw [hR] at k1
  clear hsp s1 s2 y2 y3
  have hsp := hid True.intro
  replace hA := hid hA
  replace hQ := hid hQ
  replace hatA := hid hatA
  replace hatQ := hid hatQ
  replace hn := hid hn
  replace hat := hid hat
  go_enter Try.func17, Try.ntmps17
  go_wp2_with fail
  rw [← hW0]
  replace hW0 := hid hW0
  refine k1.mono ?_
  rintro e w1 ⟨rfl, hb1⟩
  have D1 := bnext bl hb1
  go_wp2
  go_ret
  exact ⟨rfl, D1⟩

set_option maxRecDepth 100000 in
set_option maxHeartbeats 1000000 in
theorem may_acct (ca pa aa qa : Option Addr) (cn cc pn pc ak az qk qc : Nat) (pol : Int) (A : List Acc) (Q : List Qu) (a : Option Addr) (k c : Nat) (L : List Job) (s : Spc) (w : World) (hA : A.length = ak) (hac : ak ≤ az) (hQ : Q.length = qk) (hatA : AAt w aa A) (hatQ : QAt w qa Q) (hn : L.length = k) (hl : k ≤ 4611686018427387904) (hat : JAt w a L) (hR : confB A Q = true) (hf : fi A s.acct = none) :
    Calls Try.prog 17 #[.agg #[.slice ca cn cc, .slice pa pn pc, .slice aa ak az, .slice qa qk qc, .int .u8 pol], .slice a k c, .agg (sc s).toArray] w fun e w' => e = .returned (.int .i64 141) ∧ Below w.heap.size w w' := by
  obtain ⟨W0, hW0⟩ : ∃ W0, W0 = (w.alloc (.cells #[.slice ca cn cc, .slice pa pn pc, .slice aa ak az, .slice qa qk qc, .int .u8 pol] 28)).alloc (.cells (sc s).toArray 32) := ⟨_, rfl⟩
  have bl0 := below_lit w (.cells #[.slice ca cn cc, .slice pa pn pc, .slice aa ak az, .slice qa qk qc, .int .u8 pol] 28)
  have bl1 := below_lit (w.alloc (.cells #[.slice ca cn cc, .slice pa pn pc, .slice aa ak az, .slice qa qk qc, .int .u8 pol] 28)) (.cells (sc s).toArray 32)
  have bl := bnext bl0 bl1
  have k1 := conf_any ca pa aa qa cn cc pn pc ak az qk qc pol A Q _ hA hac hQ (hatA.below bl) (hatQ.below bl)
  have y2 := stay bl1 (lit_cell w 28 #[.slice ca cn cc, .slice pa pn pc, .slice aa ak az, .slice qa qk qc, .int .u8 pol] 2 (.slice aa ak az) rfl)
  have y3 := stay bl1 (lit_cell w 28 #[.slice ca cn cc, .slice pa pn pc, .slice aa ak az, .slice qa qk qc, .int .u8 pol] 3 (.slice qa qk qc) rfl)
  have cl := range_below (lit_range w 28 [.slice ca cn cc, .slice pa pn pc, .slice aa ak az, .slice qa qk qc, .int .u8 pol]) bl1
  have v0 := cl 0 _ rfl
  have v1 := cl 1 _ rfl
  have v2 := cl 2 _ rfl
  have v3 := cl 3 _ rfl
  have v4 := cl 4 _ rfl
  simp only [Nat.zero_add] at v0 v1 v2 v3 v4
  have hsp := lit_range (w.alloc (.cells #[.slice ca cn cc, .slice pa pn pc, .slice aa ak az, .slice qa qk qc, .int .u8 pol] 28)) 32 (sc s)
  rw [size_lit] at hsp
  rw [← hW0] at bl k1 y2 y3 v0 v1 v2 v3 v4 hsp
  have s1 := hsp 1 (.string s.acct) rfl
  have s2 := hsp 2 (.string s.qos) rfl
  simp only [Nat.zero_add] at s1 s2
  clear bl0 bl1 cl
  rw [hR] at k1
  have hRA := (conf_is.1 hR).1
  have hl16 : ak ≤ 16 := by rw [← hA]; exact (right_is.1 hRA).2.1
  have k2 := fun w2 (hb : Below w.heap.size w w2) => pathf_any aa ak az A s.acct w2 hA (by omega) hac (hatA.below hb)
  have he := err_no hRA hf
  rw [he, if_neg (by omega)] at k2
  replace hR := hid hR
  replace hRA := hid hRA
  replace hf := hid hf
  replace he := hid he
  replace hA := hid hA
  replace hQ := hid hQ
  replace hatA := hid hatA
  replace hatQ := hid hatQ
  replace hn := hid hn
  replace hat := hid hat
  replace hsp := hid hsp
  go_enter Try.func17, Try.ntmps17
  go_wp2_with fail
  rw [← hW0]
  replace hW0 := hid hW0
  refine k1.mono ?_
  rintro e w1 ⟨rfl, hb1⟩
  have D1 := bnext bl hb1
  replace y2 := stay hb1 y2
  replace s1 := stay hb1 s1
  go_wp2_with fail
  refine (k2 _ D1).mono ?_
  rintro e w2 ⟨va, vc, rfl, hvc, ho, hb2⟩
  have D2 := bnext D1 hb2
  replace ho := hid ho
  go_wp2
  go_ret
  exact ⟨rfl, D2⟩

set_option maxRecDepth 100000 in
set_option maxHeartbeats 1000000 in
theorem may_qos (ca pa aa qa : Option Addr) (cn cc pn pc ak az qk qc : Nat) (pol : Int) (A : List Acc) (Q : List Qu) (a : Option Addr) (k c : Nat) (L : List Job) (s : Spc) (w : World) (hA : A.length = ak) (hac : ak ≤ az) (hQ : Q.length = qk) (hatA : AAt w aa A) (hatQ : QAt w qa Q) (hn : L.length = k) (hl : k ≤ 4611686018427387904) (hat : JAt w a L) (hR : confB A Q = true) (i : Nat) (hf : fi A s.acct = some i) (hq : qi Q s.qos = none) :
    Calls Try.prog 17 #[.agg #[.slice ca cn cc, .slice pa pn pc, .slice aa ak az, .slice qa qk qc, .int .u8 pol], .slice a k c, .agg (sc s).toArray] w fun e w' => e = .returned (.int .i64 141) ∧ Below w.heap.size w w' := by
  obtain ⟨W0, hW0⟩ : ∃ W0, W0 = (w.alloc (.cells #[.slice ca cn cc, .slice pa pn pc, .slice aa ak az, .slice qa qk qc, .int .u8 pol] 28)).alloc (.cells (sc s).toArray 32) := ⟨_, rfl⟩
  have bl0 := below_lit w (.cells #[.slice ca cn cc, .slice pa pn pc, .slice aa ak az, .slice qa qk qc, .int .u8 pol] 28)
  have bl1 := below_lit (w.alloc (.cells #[.slice ca cn cc, .slice pa pn pc, .slice aa ak az, .slice qa qk qc, .int .u8 pol] 28)) (.cells (sc s).toArray 32)
  have bl := bnext bl0 bl1
  have k1 := conf_any ca pa aa qa cn cc pn pc ak az qk qc pol A Q _ hA hac hQ (hatA.below bl) (hatQ.below bl)
  have y2 := stay bl1 (lit_cell w 28 #[.slice ca cn cc, .slice pa pn pc, .slice aa ak az, .slice qa qk qc, .int .u8 pol] 2 (.slice aa ak az) rfl)
  have y3 := stay bl1 (lit_cell w 28 #[.slice ca cn cc, .slice pa pn pc, .slice aa ak az, .slice qa qk qc, .int .u8 pol] 3 (.slice qa qk qc) rfl)
  have cl := range_below (lit_range w 28 [.slice ca cn cc, .slice pa pn pc, .slice aa ak az, .slice qa qk qc, .int .u8 pol]) bl1
  have v0 := cl 0 _ rfl
  have v1 := cl 1 _ rfl
  have v2 := cl 2 _ rfl
  have v3 := cl 3 _ rfl
  have v4 := cl 4 _ rfl
  simp only [Nat.zero_add] at v0 v1 v2 v3 v4
  have hsp := lit_range (w.alloc (.cells #[.slice ca cn cc, .slice pa pn pc, .slice aa ak az, .slice qa qk qc, .int .u8 pol] 28)) 32 (sc s)
  rw [size_lit] at hsp
  rw [← hW0] at bl k1 y2 y3 v0 v1 v2 v3 v4 hsp
  have s1 := hsp 1 (.string s.acct) rfl
  have s2 := hsp 2 (.string s.qos) rfl
  simp only [Nat.zero_add] at s1 s2
  clear bl0 bl1 cl
  rw [hR] at k1
  have hRA := (conf_is.1 hR).1
  have hRQ := (conf_is.1 hR).2
  have hl16 : ak ≤ 16 := by rw [← hA]; exact (right_is.1 hRA).2.1
  have hl8 : qk ≤ 8 := by rw [← hQ]; exact (qright_is.1 hRQ).2.1
  have k2 := fun w2 (hb : Below w.heap.size w w2) => pathf_any aa ak az A s.acct w2 hA (by omega) hac (hatA.below hb)
  have he := err_of hRA hf
  rw [he, if_pos rfl] at k2
  have k3 := fun w2 (hb : Below w.heap.size w w2) => place_any qa qk qc Q s.qos w2 hQ (by omega) (hatQ.below hb)
  rw [hq] at k3
  have hneg := plV_neg (r := none) rfl
  generalize plV none = pl at *
  generalize pathP A s.acct = Tx at *
  replace hR := hid hR
  replace hRA := hid hRA
  replace hRQ := hid hRQ
  replace hf := hid hf
  replace hq := hid hq
  replace he := hid he
  replace hA := hid hA
  replace hQ := hid hQ
  replace hatA := hid hatA
  replace hatQ := hid hatQ
  replace hn := hid hn
  replace hat := hid hat
  replace hsp := hid hsp
  go_enter Try.func17, Try.ntmps17
  go_wp2_with fail
  rw [← hW0]
  replace hW0 := hid hW0
  refine k1.mono ?_
  rintro e w1 ⟨rfl, hb1⟩
  have D1 := bnext bl hb1
  replace y2 := stay hb1 y2
  replace y3 := stay hb1 y3
  replace s1 := stay hb1 s1
  replace s2 := stay hb1 s2
  go_wp2_with fail
  refine (k2 _ D1).mono ?_
  rintro e w2 ⟨va, vc, rfl, hvc, ho, hb2⟩
  have D2 := bnext D1 hb2
  replace y3 := stay hb2 y3
  replace s2 := stay hb2 s2
  replace ho := hid ho
  go_wp2_with fail
  refine (k3 _ D2).mono ?_
  rintro e w3 ⟨rfl, hb3⟩
  have D3 := bnext D2 hb3
  go_wp2
  go_ret
  exact ⟨rfl, D3⟩

def pv17t (g3 g5 : Nat) (a ta aa : Option Addr) (k c tk tc ak az qb qo qk qc i : Nat) (nm : ByteArray) (pr lm jm : Int) (s : Spc) (P2 : Bool) : List Value := [.pointer (some ⟨g3, 2, none⟩), .slice aa ak az, .slice a k c, .slice ta tk tc, .agg (sc s).toArray, undef, .bool true, .bool true, undef, undef, undef, undef, undef, undef, undef, undef, undef, .bool true]

def pv17f (g3 g5 : Nat) (a ta aa : Option Addr) (k c tk tc ak az qb qo qk qc i : Nat) (nm : ByteArray) (pr lm jm : Int) (s : Spc) (P2 : Bool) : List Value := [.pointer (some ⟨g3, 2, none⟩), .slice aa ak az, .slice a k c, .slice ta tk tc, .agg (sc s).toArray, undef, .bool false, .bool false, .pointer (some ⟨g3, 3, none⟩), .slice (some ⟨qb, qo, none⟩) qk qc, .int .i64 (i : Int), .pointer (some ⟨qb, qo + i * 4, none⟩), .agg #[.string nm, .int .i64 pr, .int .i64 lm, .int .i64 jm], .slice a k c, .agg (sc s).toArray, undef, .bool P2, .bool P2]

set_option maxRecDepth 100000 in
set_option maxHeartbeats 4000000 in
theorem may_lim (ca pa aa qa : Option Addr) (cn cc pn pc ak az qk qc : Nat) (pol : Int) (A : List Acc) (Q : List Qu) (a : Option Addr) (k c : Nat) (L : List Job) (s : Spc) (w : World) (hA : A.length = ak) (hac : ak ≤ az) (hQ : Q.length = qk) (hatA : AAt w aa A) (hatQ : QAt w qa Q) (hn : L.length = k) (hl : k ≤ 4611686018427387904) (hat : JAt w a L) (hR : confB A Q = true) (i0 i : Nat) (hf : fi A s.acct = some i0) (hq : qi Q s.qos = some i) :
    Calls Try.prog 17 #[.agg #[.slice ca cn cc, .slice pa pn pc, .slice aa ak az, .slice qa qk qc, .int .u8 pol], .slice a k c, .agg (sc s).toArray] w fun e w' => e = .returned (.int .i64 (if (((pathP A s.acct).map (abd A L s)).any pasB || (qbd (quAt Q i) L s).any pasB) = true then 150 else 0)) ∧ Below w.heap.size w w' := by
  obtain ⟨W0, hW0⟩ : ∃ W0, W0 = (w.alloc (.cells #[.slice ca cn cc, .slice pa pn pc, .slice aa ak az, .slice qa qk qc, .int .u8 pol] 28)).alloc (.cells (sc s).toArray 32) := ⟨_, rfl⟩
  have bl0 := below_lit w (.cells #[.slice ca cn cc, .slice pa pn pc, .slice aa ak az, .slice qa qk qc, .int .u8 pol] 28)
  have bl1 := below_lit (w.alloc (.cells #[.slice ca cn cc, .slice pa pn pc, .slice aa ak az, .slice qa qk qc, .int .u8 pol] 28)) (.cells (sc s).toArray 32)
  have bl := bnext bl0 bl1
  have k1 := conf_any ca pa aa qa cn cc pn pc ak az qk qc pol A Q _ hA hac hQ (hatA.below bl) (hatQ.below bl)
  have y2 := stay bl1 (lit_cell w 28 #[.slice ca cn cc, .slice pa pn pc, .slice aa ak az, .slice qa qk qc, .int .u8 pol] 2 (.slice aa ak az) rfl)
  have y3 := stay bl1 (lit_cell w 28 #[.slice ca cn cc, .slice pa pn pc, .slice aa ak az, .slice qa qk qc, .int .u8 pol] 3 (.slice qa qk qc) rfl)
  have cl := range_below (lit_range w 28 [.slice ca cn cc, .slice pa pn pc, .slice aa ak az, .slice qa qk qc, .int .u8 pol]) bl1
  have v0 := cl 0 _ rfl
  have v1 := cl 1 _ rfl
  have v2 := cl 2 _ rfl
  have v3 := cl 3 _ rfl
  have v4 := cl 4 _ rfl
  simp only [Nat.zero_add] at v0 v1 v2 v3 v4
  have hsp := lit_range (w.alloc (.cells #[.slice ca cn cc, .slice pa pn pc, .slice aa ak az, .slice qa qk qc, .int .u8 pol] 28)) 32 (sc s)
  rw [size_lit] at hsp
  rw [← hW0] at bl k1 y2 y3 v0 v1 v2 v3 v4 hsp
  have s1 := hsp 1 (.string s.acct) rfl
  have s2 := hsp 2 (.string s.qos) rfl
  simp only [Nat.zero_add] at s1 s2
  clear bl0 bl1 cl
  rw [hR] at k1
  have hRA := (conf_is.1 hR).1
  have hRQ := (conf_is.1 hR).2
  have hl16 : ak ≤ 16 := by rw [← hA]; exact (right_is.1 hRA).2.1
  have hl8 : qk ≤ 8 := by rw [← hQ]; exact (qright_is.1 hRQ).2.1
  have hiQ := qi_lt hq
  have hik : i < qk := by rw [← hQ]; exact hiQ
  have hiz : (0 : Int) ≤ (i : Int) := by omega
  have hi1 := fi_lt hf
  have hpl := path_len hf
  obtain ⟨qb, qo, e⟩ := hatQ.place (by omega)
  subst e
  have k2 := fun w2 (hb : Below w.heap.size w w2) => pathf_any aa ak az A s.acct w2 hA (by omega) hac (hatA.below hb)
  have he := err_of hRA hf
  rw [he, if_pos rfl] at k2
  have k3 := fun w2 (hb : Below w.heap.size w w2) => place_any (some ⟨qb, qo, none⟩) qk qc Q s.qos w2 hQ (by omega) (hatQ.below hb)
  rw [hq] at k3
  rw [show plV (some i) = (i : Int) from rfl] at k3
  have hTm : ∀ n ∈ pathP A s.acct, ∃ j, fi A n = some j := fun n hn => by
    obtain ⟨j, _, h⟩ := path_mem hRA hf hn
    exact ⟨j, h⟩
  have kP0 := fun w2 (hb : Below w.heap.size w w2) ta tc (hT : TAt w2 ta (pathP A s.acct)) => onpath_any aa ak az A a k c L ta (pathP A s.acct).length tc (pathP A s.acct) s w2 hA hac (hatA.below hb) hn hl (hat.below hb) rfl (by omega) hT hRA hTm
  have kQ0 := fun w2 (hb : Below w.heap.size w w2) => onqual_any (quAt Q i).1 (quAt Q i).2.1 (quAt Q i).2.2.1 (quAt Q i).2.2.2 s a k c L w2 hn hl (hat.below hb)
  rw [show ((quAt Q i).1, (quAt Q i).2.1, (quAt Q i).2.2.1, (quAt Q i).2.2.2) = quAt Q i from rfl] at kQ0
  have hlen1 : ((pathP A s.acct).map (abd A L s)).length = (pathP A s.acct).length := List.length_map _
  have hlen2 : (qbd (quAt Q i) L s).length = 2 := rfl
  have zs := fun w2 (hb : Below w.heap.size w w2) => (hatQ.below hb).one hiQ
  generalize (pathP A s.acct).map (abd A L s) = B1 at *
  generalize qbd (quAt Q i) L s = B2 at *
  have kS1 := fun w ra rc (h : BAt w ra B1) => passed_any ra (pathP A s.acct).length rc B1 w hlen1 (by omega) h
  have kS2 := fun w ra rc (h : BAt w ra B2) => passed_any ra 2 rc B2 w hlen2 (by omega) h
  generalize B1.any pasB = P1 at *
  generalize B2.any pasB = P2 at *
  generalize quAt Q i = X at *
  obtain ⟨nm, pr, lm, jm⟩ := X
  dsimp only at *
  generalize pathP A s.acct = Tx at *
  replace hR := hid hR
  replace hRA := hid hRA
  replace hRQ := hid hRQ
  replace hf := hid hf
  replace hq := hid hq
  replace he := hid he
  replace hTm := hid hTm
  replace hlen1 := hid hlen1
  replace hlen2 := hid hlen2
  replace kP0 := hid kP0
  replace kQ0 := hid kQ0
  replace kS1 := hid kS1
  replace kS2 := hid kS2
  replace zs := hid zs
  replace hA := hid hA
  replace hQ := hid hQ
  replace hatA := hid hatA
  replace hatQ := hid hatQ
  replace hn := hid hn
  replace hat := hid hat
  replace hsp := hid hsp
  go_enter Try.func17, Try.ntmps17
  go_wp2_with fail
  rw [← hW0]
  replace hW0 := hid hW0
  refine k1.mono ?_
  rintro e w1 ⟨rfl, hb1⟩
  have D1 := bnext bl hb1
  replace y2 := stay hb1 y2
  replace y3 := stay hb1 y3
  replace s1 := stay hb1 s1
  replace s2 := stay hb1 s2
  go_wp2_with fail
  refine (k2 _ D1).mono ?_
  rintro e w2 ⟨ta, tc, rfl, hvc, ho, hb2⟩
  have D2 := bnext D1 hb2
  replace y2 := stay hb2 y2
  replace y3 := stay hb2 y3
  replace s2 := stay hb2 s2
  replace ho := hid ho
  go_wp2_with fail
  refine (k3 _ D2).mono ?_
  rintro e w3 ⟨rfl, hb3⟩
  have D3 := bnext D2 hb3
  replace y2 := hid (stay hb3 y2)
  replace y3 := hid (stay hb3 y3)
  replace hsp := hid (range_below hsp.out (bnext hb1 (bnext hb2 hb3)))
  have kP := hid (fun w4 (h : Below w3.heap.size w3 w4) => kP0.out w4 (bnext D3 h) ta tc (ho.out.tat.below (bnext hb3 h)))
  have kQ := hid (fun w4 (h : Below w3.heap.size w3 w4) => kQ0.out w4 (bnext D3 h))
  have zz := hid (zs.out w3 D3)
  clear kP0 kQ0 zs ho k2 k3 v0 v1 v2 v3 v4 s1 s2
  cases P1 with
  | true =>
    go_wp2_with fail
    replace kP := kP.out
    replace kQ := kQ.out
    replace kS1 := kS1.out
    replace kS2 := kS2.out
    replace hsp := hsp.out
    replace y2 := y2.out
    replace y3 := y3.out
    generalize w.heap.size + 1 = g5 at hsp ⊢
    generalize w.heap.size = g3 at y2 y3 ⊢
    generalize Tx.length = tk at *
    refine wp_region_drawn (Rel := fun w w' => Below w.heap.size w w') (Pr := PrV (pv17t g3 g5 a ta aa k c tk tc ak az qb qo qk qc i nm pr lm jm s P2) [5] (fun q v w' => ∃ ra rc, v = .slice ra (if q = 5 then tk else 2) rc ∧ BAt w' ra (if q = 5 then B1 else B2))) (by kernel_rfl) (by kernel_rfl) (drew_below _) bel_tr (PrV.mono (fun _ _ _ _ h hb => by obtain ⟨ra, rc, e, hc⟩ := h; exact ⟨ra, rc, e, BAt.below hc hb⟩)) ?_ ?_
    · refine ⟨?_, ?_, ?_, ?_, ?_, ?_, ?_, ?_, ?_, ?_, ?_, ?_, ?_, ?_, ?_, ?_, ?_, ?_, trivial⟩
      · intro ac w hR hd hk K hK
        have e3 : ac.tmps[3]?.getD undef = (.pointer (some ⟨g3, 0, none⟩) : Value) := slot (get_keep (hk 3 (no_dst (by kernel_rfl))) rfl)
        refine yes (want_n rfl) ?_
        have hv := hid (hK (.pointer (some ⟨g3, 2, none⟩)) w (PrV.is rfl rfl) (Below.refl _ _))
        go_simp
        refine kq hv.out ?_
        rfl
      · intro ac w hR hd hk K hK
        have e31 : ac.tmps[31]?.getD undef = (.pointer (some ⟨g3, 2, none⟩) : Value) := slot ((hd 0 _ 31 rfl rfl rfl).val rfl)
        have x0 := stay hR y2
        refine yes (want_n rfl) ?_
        have hv := hid (hK (.slice aa ak az) w (PrV.is rfl rfl) (Below.refl _ _))
        go_simp
        refine kq hv.out ?_
        rfl
      · exact fun ac w hR hd hk K hK => yes (want_n rfl) (wp_mv _ rfl _ (get_keep (hk 1 (no_dst (by kernel_rfl))) rfl) (hK _ w (PrV.is rfl rfl) (Below.refl _ _)))
      · exact fun ac w hR hd hk K hK => yes (want_n rfl) (wp_mv _ rfl _ (get_keep (hk 7 (no_dst (by kernel_rfl))) rfl) (hK _ w (PrV.is rfl rfl) (Below.refl _ _)))
      · exact fun ac w hR hd hk K hK => yes (want_n rfl) (wp_load_mid 32 _ rfl g5 0 (get_keep (hk 5 (no_dst (by kernel_rfl))) rfl) (sc s) _ (range_below hsp hR) Try.underlying32 rfl (by kernel_rfl) (hK _ w (PrV.is rfl rfl) (Below.refl _ _)))
      · intro ac w hR hd hk K hK
        refine yes (want_n rfl) ?_
        refine wp_callv 42 _ _ rfl _ Try.func42 rfl rfl _ (args4 ((hd 1 _ 32 rfl rfl rfl).val rfl) ((hd 2 _ 33 rfl rfl rfl).val rfl) ((hd 3 _ 34 rfl rfl rfl).val rfl) ((hd 4 _ 35 rfl rfl rfl).val rfl)) (kP w hR) ?_
        rintro e w' ⟨ra, rc, rfl, h, hb⟩
        exact ⟨_, rfl, hK _ w' (PrV.by rfl ⟨ra, rc, rfl, h⟩) hb⟩
      · intro ac w hR hd hk K hK
        obtain ⟨ra, rc, e1, h1⟩ := (hd 5 _ 36 rfl rfl rfl).out rfl
        refine yes (want_n rfl) ?_
        refine wp_callv 41 _ _ rfl _ Try.func41 rfl rfl _ (args1 e1) (kS1 w ra rc h1) ?_
        rintro e w' ⟨rfl, hb⟩
        exact ⟨_, rfl, hK _ w' (PrV.is rfl rfl) hb⟩
      · exact fun ac w hR hd hk K hK => yes (want_n rfl) (wp_mv _ rfl _ ((hd 6 _ 37 rfl rfl rfl).val rfl) (hK _ w (PrV.is rfl rfl) (Below.refl _ _)))
      · exact fun ac w hR hd hk K hK => nope (want_f rfl rfl ((hd 7 _ 38 rfl rfl rfl).val rfl) (by decide)) (hK _ w (PrV.is rfl rfl) (Below.refl _ _))
      · exact fun ac w hR hd hk K hK => nope (want_f rfl rfl ((hd 7 _ 38 rfl rfl rfl).val rfl) (by decide)) (hK _ w (PrV.is rfl rfl) (Below.refl _ _))
      · exact fun ac w hR hd hk K hK => nope (want_f rfl rfl ((hd 7 _ 38 rfl rfl rfl).val rfl) (by decide)) (hK _ w (PrV.is rfl rfl) (Below.refl _ _))
      · exact fun ac w hR hd hk K hK => nope (want_f rfl rfl ((hd 7 _ 38 rfl rfl rfl).val rfl) (by decide)) (hK _ w (PrV.is rfl rfl) (Below.refl _ _))
      · exact fun ac w hR hd hk K hK => nope (want_f rfl rfl ((hd 7 _ 38 rfl rfl rfl).val rfl) (by decide)) (hK _ w (PrV.is rfl rfl) (Below.refl _ _))
      · exact fun ac w hR hd hk K hK => nope (want_f rfl rfl ((hd 7 _ 38 rfl rfl rfl).val rfl) (by decide)) (hK _ w (PrV.is rfl rfl) (Below.refl _ _))
      · exact fun ac w hR hd hk K hK => nope (want_f rfl rfl ((hd 7 _ 38 rfl rfl rfl).val rfl) (by decide)) (hK _ w (PrV.is rfl rfl) (Below.refl _ _))
      · exact fun ac w hR hd hk K hK => nope (want_f rfl rfl ((hd 7 _ 38 rfl rfl rfl).val rfl) (by decide)) (hK _ w (PrV.is rfl rfl) (Below.refl _ _))
      · exact fun ac w hR hd hk K hK => nope (want_f rfl rfl ((hd 7 _ 38 rfl rfl rfl).val rfl) (by decide)) (hK _ w (PrV.is rfl rfl) (Below.refl _ _))
      · exact fun ac w hR hd hk K hK => yes (want_n rfl) (wp_pick _ _ _ rfl true _ ((hd 7 _ 38 rfl rfl rfl).val rfl) rfl (hK _ w (PrV.is rfl rfl) (Below.refl _ _)))
    · intro a w5 hdf hsz hkp hval hRw
      obtain ⟨f, hf⟩ : ∃ f, f = fun d => a.tmps.getD d undef := ⟨_, rfl⟩
      have h48 : f 48 = .bool true := by rw [hf]; exact (hval 17 _ 48 rfl rfl).val rfl
      have hfa := act_filled hdf hsz hkp
      rw [← hf] at hfa
      rw [hfa]
      clear hdf hsz hkp hval hfa hf
      clear a
      simp only [fillAll, List.set_cons_zero, List.set_cons_succ, h48]
      clear h48
      have D5 := bnext D3 hRw
      go_wp2
      go_ret
      exact ⟨rfl, D5⟩
  | false =>
    go_wp2_with fail
    replace kP := kP.out
    replace kQ := kQ.out
    replace kS1 := kS1.out
    replace kS2 := kS2.out
    replace hsp := hsp.out
    replace y2 := y2.out
    replace y3 := y3.out
    obtain ⟨z0, z1, z2, z3⟩ := zz.out
    generalize w.heap.size + 1 = g5 at hsp ⊢
    generalize w.heap.size = g3 at y2 y3 ⊢
    generalize Tx.length = tk at *
    refine wp_region_drawn (Rel := fun w w' => Below w.heap.size w w') (Pr := PrV (pv17f g3 g5 a ta aa k c tk tc ak az qb qo qk qc i nm pr lm jm s P2) [5, 15] (fun q v w' => ∃ ra rc, v = .slice ra (if q = 5 then tk else 2) rc ∧ BAt w' ra (if q = 5 then B1 else B2))) (by kernel_rfl) (by kernel_rfl) (drew_below _) bel_tr (PrV.mono (fun _ _ _ _ h hb => by obtain ⟨ra, rc, e, hc⟩ := h; exact ⟨ra, rc, e, BAt.below hc hb⟩)) ?_ ?_
    · refine ⟨?_, ?_, ?_, ?_, ?_, ?_, ?_, ?_, ?_, ?_, ?_, ?_, ?_, ?_, ?_, ?_, ?_, ?_, trivial⟩
      · intro ac w hR hd hk K hK
        have e3 : ac.tmps[3]?.getD undef = (.pointer (some ⟨g3, 0, none⟩) : Value) := slot (get_keep (hk 3 (no_dst (by kernel_rfl))) rfl)
        refine yes (want_n rfl) ?_
        have hv := hid (hK (.pointer (some ⟨g3, 2, none⟩)) w (PrV.is rfl rfl) (Below.refl _ _))
        go_simp
        refine kq hv.out ?_
        rfl
      · intro ac w hR hd hk K hK
        have e31 : ac.tmps[31]?.getD undef = (.pointer (some ⟨g3, 2, none⟩) : Value) := slot ((hd 0 _ 31 rfl rfl rfl).val rfl)
        have x0 := stay hR y2
        refine yes (want_n rfl) ?_
        have hv := hid (hK (.slice aa ak az) w (PrV.is rfl rfl) (Below.refl _ _))
        go_simp
        refine kq hv.out ?_
        rfl
      · exact fun ac w hR hd hk K hK => yes (want_n rfl) (wp_mv _ rfl _ (get_keep (hk 1 (no_dst (by kernel_rfl))) rfl) (hK _ w (PrV.is rfl rfl) (Below.refl _ _)))
      · exact fun ac w hR hd hk K hK => yes (want_n rfl) (wp_mv _ rfl _ (get_keep (hk 7 (no_dst (by kernel_rfl))) rfl) (hK _ w (PrV.is rfl rfl) (Below.refl _ _)))
      · exact fun ac w hR hd hk K hK => yes (want_n rfl) (wp_load_mid 32 _ rfl g5 0 (get_keep (hk 5 (no_dst (by kernel_rfl))) rfl) (sc s) _ (range_below hsp hR) Try.underlying32 rfl (by kernel_rfl) (hK _ w (PrV.is rfl rfl) (Below.refl _ _)))
      · intro ac w hR hd hk K hK
        refine yes (want_n rfl) ?_
        refine wp_callv 42 _ _ rfl _ Try.func42 rfl rfl _ (args4 ((hd 1 _ 32 rfl rfl rfl).val rfl) ((hd 2 _ 33 rfl rfl rfl).val rfl) ((hd 3 _ 34 rfl rfl rfl).val rfl) ((hd 4 _ 35 rfl rfl rfl).val rfl)) (kP w hR) ?_
        rintro e w' ⟨ra, rc, rfl, h, hb⟩
        exact ⟨_, rfl, hK _ w' (PrV.by rfl ⟨ra, rc, rfl, h⟩) hb⟩
      · intro ac w hR hd hk K hK
        obtain ⟨ra, rc, e1, h1⟩ := (hd 5 _ 36 rfl rfl rfl).out rfl
        refine yes (want_n rfl) ?_
        refine wp_callv 41 _ _ rfl _ Try.func41 rfl rfl _ (args1 e1) (kS1 w ra rc h1) ?_
        rintro e w' ⟨rfl, hb⟩
        exact ⟨_, rfl, hK _ w' (PrV.is rfl rfl) hb⟩
      · exact fun ac w hR hd hk K hK => yes (want_n rfl) (wp_mv _ rfl _ ((hd 6 _ 37 rfl rfl rfl).val rfl) (hK _ w (PrV.is rfl rfl) (Below.refl _ _)))
      · intro ac w hR hd hk K hK
        have e3 : ac.tmps[3]?.getD undef = (.pointer (some ⟨g3, 0, none⟩) : Value) := slot (get_keep (hk 3 (no_dst (by kernel_rfl))) rfl)
        refine yes (want_g rfl rfl ((hd 7 _ 38 rfl rfl rfl).val rfl)) ?_
        have hv := hid (hK (.pointer (some ⟨g3, 3, none⟩)) w (PrV.is rfl rfl) (Below.refl _ _))
        go_simp
        refine kq hv.out ?_
        rfl
      · intro ac w hR hd hk K hK
        have e39 : ac.tmps[39]?.getD undef = (.pointer (some ⟨g3, 3, none⟩) : Value) := slot ((hd 8 _ 39 rfl rfl rfl).val rfl)
        have x0 := stay hR y3
        refine yes (want_g rfl rfl ((hd 7 _ 38 rfl rfl rfl).val rfl)) ?_
        have hv := hid (hK (.slice (some ⟨qb, qo, none⟩) qk qc) w (PrV.is rfl rfl) (Below.refl _ _))
        go_simp
        refine kq hv.out ?_
        rfl
      · exact fun ac w hR hd hk K hK => yes (want_g rfl rfl ((hd 7 _ 38 rfl rfl rfl).val rfl)) (wp_mv _ rfl _ (get_keep (hk 9 (no_dst (by kernel_rfl))) rfl) (hK _ w (PrV.is rfl rfl) (Below.refl _ _)))
      · intro ac w hR hd hk K hK
        have e40 : ac.tmps[40]?.getD undef = (.slice (some ⟨qb, qo, none⟩) qk qc : Value) := slot ((hd 9 _ 40 rfl rfl rfl).val rfl)
        have e41 : ac.tmps[41]?.getD undef = (.int .i64 (i : Int) : Value) := slot ((hd 10 _ 41 rfl rfl rfl).val rfl)
        have hi1 := hik
        have hi2 := hiz
        refine yes (want_g rfl rfl ((hd 7 _ 38 rfl rfl rfl).val rfl)) ?_
        have hv := hid (hK (.pointer (some ⟨qb, qo + i * 4, none⟩)) w (PrV.is rfl rfl) (Below.refl _ _))
        go_simp
        refine kq hv.out ?_
        rfl
      · intro ac w hR hd hk K hK
        have e42 : ac.tmps[42]?.getD undef = (.pointer (some ⟨qb, qo + i * 4, none⟩) : Value) := slot ((hd 11 _ 42 rfl rfl rfl).val rfl)
        have x0 := stay hR z0
        have x1 := stay hR z1
        have x2 := stay hR z2
        have x3 := stay hR z3
        refine yes (want_g rfl rfl ((hd 7 _ 38 rfl rfl rfl).val rfl)) ?_
        have hv := hid (hK (.agg #[.string nm, .int .i64 pr, .int .i64 lm, .int .i64 jm]) w (PrV.is rfl rfl) (Below.refl _ _))
        go_simp
        refine kq hv.out ?_
        rfl
      · exact fun ac w hR hd hk K hK => yes (want_g rfl rfl ((hd 7 _ 38 rfl rfl rfl).val rfl)) (wp_mv _ rfl _ (get_keep (hk 1 (no_dst (by kernel_rfl))) rfl) (hK _ w (PrV.is rfl rfl) (Below.refl _ _)))
      · exact fun ac w hR hd hk K hK => yes (want_g rfl rfl ((hd 7 _ 38 rfl rfl rfl).val rfl)) (wp_load_mid 32 _ rfl g5 0 (get_keep (hk 5 (no_dst (by kernel_rfl))) rfl) (sc s) _ (range_below hsp hR) Try.underlying32 rfl (by kernel_rfl) (hK _ w (PrV.is rfl rfl) (Below.refl _ _)))
      · intro ac w hR hd hk K hK
        refine yes (want_g rfl rfl ((hd 7 _ 38 rfl rfl rfl).val rfl)) ?_
        refine wp_callv 43 _ _ rfl _ Try.func43 rfl rfl _ (args3 ((hd 12 _ 43 rfl rfl rfl).val rfl) ((hd 13 _ 44 rfl rfl rfl).val rfl) ((hd 14 _ 45 rfl rfl rfl).val rfl)) (kQ w hR) ?_
        rintro e w' ⟨g, rfl, h, hb⟩
        exact ⟨_, rfl, hK _ w' (PrV.by rfl ⟨_, 2, rfl, h⟩) hb⟩
      · intro ac w hR hd hk K hK
        obtain ⟨ra, rc, e1, h1⟩ := (hd 15 _ 46 rfl rfl rfl).out rfl
        refine yes (want_g rfl rfl ((hd 7 _ 38 rfl rfl rfl).val rfl)) ?_
        refine wp_callv 41 _ _ rfl _ Try.func41 rfl rfl _ (args1 e1) (kS2 w ra rc h1) ?_
        rintro e w' ⟨rfl, hb⟩
        exact ⟨_, rfl, hK _ w' (PrV.is rfl rfl) hb⟩
      · exact fun ac w hR hd hk K hK => yes (want_n rfl) (wp_pick _ _ _ rfl false _ ((hd 7 _ 38 rfl rfl rfl).val rfl) ((hd 16 _ 47 rfl rfl rfl).val rfl) (hK _ w (PrV.is rfl rfl) (Below.refl _ _)))
    · intro a w5 hdf hsz hkp hval hRw
      obtain ⟨f, hf⟩ : ∃ f, f = fun d => a.tmps.getD d undef := ⟨_, rfl⟩
      have h48 : f 48 = .bool P2 := by rw [hf]; exact (hval 17 _ 48 rfl rfl).val rfl
      have hfa := act_filled hdf hsz hkp
      rw [← hf] at hfa
      rw [hfa]
      clear hdf hsz hkp hval hfa hf
      clear a
      simp only [fillAll, List.set_cons_zero, List.set_cons_succ, h48]
      clear h48
      have D5 := bnext D3 hRw
      cases P2 with
      | true =>
        go_wp2
        go_ret
        exact ⟨rfl, D5⟩
      | false =>
        go_wp2
        go_ret
        exact ⟨rfl, D5⟩

theorem may_any (ca pa aa qa : Option Addr) (cn cc pn pc ak az qk qc : Nat) (pol : Int) (A : List Acc) (Q : List Qu) (a : Option Addr) (k c : Nat) (L : List Job) (s : Spc) (w : World) (hA : A.length = ak) (hac : ak ≤ az) (hQ : Q.length = qk) (hatA : AAt w aa A) (hatQ : QAt w qa Q) (hn : L.length = k) (hl : k ≤ 4611686018427387904) (hat : JAt w a L) :
    Calls Try.prog 17 #[.agg #[.slice ca cn cc, .slice pa pn pc, .slice aa ak az, .slice qa qk qc, .int .u8 pol], .slice a k c, .agg (sc s).toArray] w fun e w' => e = .returned (.int .i64 (mayP A Q L s)) ∧ Below w.heap.size w w' := by
  unfold mayP
  cases hR : confB A Q with
  | false => exact may_arg ca pa aa qa cn cc pn pc ak az qk qc pol A Q a k c L s w hA hac hQ hatA hatQ hn hl hat hR
  | true =>
    rw [if_pos rfl]
    cases hf : fi A s.acct with
    | none => exact may_acct ca pa aa qa cn cc pn pc ak az qk qc pol A Q a k c L s w hA hac hQ hatA hatQ hn hl hat hR hf
    | some i0 =>
      cases hq : qi Q s.qos with
      | none => exact may_qos ca pa aa qa cn cc pn pc ak az qk qc pol A Q a k c L s w hA hac hQ hatA hatQ hn hl hat hR i0 hf hq
      | some i => exact may_lim ca pa aa qa cn cc pn pc ak az qk qc pol A Q a k c L s w hA hac hQ hatA hatQ hn hl hat hR i0 i hf hq

end Go.Proofs.Ytpebhjncdfcmnaa
