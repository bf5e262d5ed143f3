/- PartsTells: the program answers as the document. -/
import Derived.Test.YtilncacmkfohdaaPj
import Derived.Test.YtilncacmkfohdaaCfg
import Derived.Test.YtilncacmkfohdaaAwake
import Derived.Test.YtilncacmkfohdaaBig
namespace Go.Proofs.Ytilncacmkfohdaa
open Go.RowKit
set_option linter.unusedVariables false

theorem pi_re : ∀ {M M' : List (Prt × List ByteArray)} (_ : ReP M M') (n : ByteArray), pi (M'.map (·.1)) n = pi (M.map (·.1)) n
  | [], [], _, n => rfl
  | p :: r, q :: t, h, n => by
    obtain ⟨⟨x, y, e⟩, _, h2⟩ := h
    have ih := pi_re h2 n
    unfold pi at *
    simp only [List.map_cons, ki]
    rw [ih, e]; rfl
  | [], q :: t, h, _ => by cases h
  | p :: r, [], h, _ => by cases h
theorem mAt_re {M M' : List (Prt × List ByteArray)} (h : ReP M M') {i : Nat} (hi : i < M.length) : (∃ x y, (mAt M' i).1 = (mAt M i).1.re x y) ∧ (mAt M' i).2 = (mAt M i).2 := by
  have hl := reP_len h
  have := reP_at h i hi (by omega)
  rw [mAt_eq hi, mAt_eq (by omega)] at this
  exact this
theorem partsB_re {cn : Nat} {A : List Acc} {M M' : List (Prt × List ByteArray)} (h : ReP M M') : partsB cn A M' = partsB cn A M := by
  unfold partsB
  have hl := reP_len h
  refine decide_eq_decide.2 ?_
  rw [hl]
  refine and_congr_right fun _ => and_congr_right fun _ => forall_congr' fun i => ?_
  refine imp_congr_right fun hi => ?_
  obtain ⟨⟨x, y, e⟩, e2⟩ := mAt_re h hi
  rw [pi_re h, e, e2]; rfl
theorem rcB_re {Z : List Int} {A : List Acc} {Q : List Qu} {pol : Int} {M M' : List (Prt × List ByteArray)} (h : ReP M M') : rcB Z M' A Q pol = rcB Z M A Q pol := by
  unfold rcB; rw [partsB_re h]
theorem chkP_re {Z : List Int} {A : List Acc} {Q : List Qu} {pol : Int} {M M' : List (Prt × List ByteArray)} (h : ReP M M') (s : Spc) : chkP Z M' A Q pol s = chkP Z M A Q pol s := by
  unfold chkP
  rw [rcB_re h, pi_re h]
  cases hp : pi (M.map (·.1)) s.part with
  | none => rfl
  | some i =>
    have hi : i < M.length := by have := pi_lt hp; rwa [List.length_map] at this
    obtain ⟨⟨x, y, e⟩, e2⟩ := mAt_re h hi
    simp only []
    rw [e, e2]; rfl

theorem cfr_copy {w : World} {ca pa aa qa ca2 pa2 aa2 qa2 : Option Addr} {cn cc pn pc ak az qk qc az2 qc2 : Nat} {I : List Int} {M M' : List (Prt × List ByteArray)} {A : List Acc} {Q : List Qu}
    (hin : CfgIn w ca pa aa qa cn cc pn pc ak az qk qc I M A Q) (hC : Cf2 w ca2 pa2 aa2 qa2 az2 qc2 ak qk M' I M A Q) : CfR w ca2 pa2 aa2 qa2 cn pn ak az2 qk I M' A Q := by
  obtain ⟨h1, h2, h3, h4, h5, h6, h7, h8⟩ := hC
  have hl := reP_len h3
  have e1 := hin.ib
  have e2 := hin.mb
  have e3 := hin.ab
  have e4 := hin.qb
  have each : ∀ p ∈ M', ∃ q ∈ M, (∃ x y, p.1 = q.1.re x y) ∧ p.2 = q.2 := fun p hp => by
    obtain ⟨i, hi, rfl⟩ := List.getElem_of_mem hp
    have hi2 : i < M.length := by omega
    exact ⟨M[i], List.getElem_mem hi2, reP_at h3 i hi2 hi⟩
  refine ⟨hin.il, h1, by omega, by rw [hl]; exact hin.ml, h2, by omega, fun p hp => ?_, fun p hp => ?_, hin.al, h5, h6, by omega, hin.ql, h7, by omega⟩
  · obtain ⟨q, hq, ⟨x, y, e⟩, e5⟩ := each p hp
    obtain ⟨m1, m2, m3⟩ := hin.min q hq
    refine ⟨by rw [e5, e]; exact m1, h4 p hp, ?_⟩
    rw [e]
    have : (q.1.re x y).dn = q.1.dn := rfl
    omega
  · obtain ⟨q, hq, ⟨x, y, e⟩, e5⟩ := each p hp
    obtain ⟨z, hz, hz2⟩ := hin.set q hq
    exact ⟨z, by rw [e]; exact hz, hz2⟩

theorem cfr_in {w : World} {ca pa aa qa : Option Addr} {cn cc pn pc ak az qk qc : Nat} {I : List Int} {M : List (Prt × List ByteArray)} {A : List Acc} {Q : List Qu}
    (hin : CfgIn w ca pa aa qa cn cc pn pc ak az qk qc I M A Q) : CfR w ca pa aa qa cn pn ak az qk I M A Q := by
  have e1 := hin.ib
  have e2 := hin.mb
  have e3 := hin.ab
  have e4 := hin.qb
  exact ⟨hin.il, hin.iat, by omega, hin.ml, hin.mat, by omega, fun p hp => ⟨(hin.min p hp).1, (hin.min p hp).2.1, by have := (hin.min p hp).2.2; omega⟩, hin.set, hin.al, hin.aat, hin.ale, by omega, hin.ql, hin.qat, by omega⟩

theorem CfgIn.below {w w' : World} {ca pa aa qa : Option Addr} {cn cc pn pc ak az qk qc : Nat} {I : List Int} {M : List (Prt × List ByteArray)} {A : List Acc} {Q : List Qu}
    (h : CfgIn w ca pa aa qa cn cc pn pc ak az qk qc I M A Q) (hb : Below w.heap.size w w') : CfgIn w' ca pa aa qa cn cc pn pc ak az qk qc I M A Q :=
  ⟨h.il, h.iat.below hb, h.ib, h.ml, h.mat.below hb, h.mb, h.min.below hb, h.set, h.al, h.aat.below hb, h.ale, h.ab, h.asz, h.ql, h.qat.below hb, h.qle, h.qb, h.qsz⟩

def pv3 (ta : Option Addr) (tk tc g3 g4 g7 : Nat) (vi : Int) (F B1 B2 : Bool) (C1 : Int) (ca pa aa qa ca2 pa2 aa2 qa2 : Option Addr) (cn cc pn pc ak az qk qc cc2 pc2 az2 qc2 : Nat) (pol : Int) (s0 s1 s2 s3 : ByteArray) (nn co lm : Int) (da : Option Addr) (dn dc : Nat) : List Value := [.int .i64 vi, .int .i64 vi, .bool false, .bool false, .bool F, .bool F, .bool false, .bool false, .bool false, .agg #[.slice ca2 cn cc2, .slice pa2 pn pc2, .slice aa2 ak az2, .slice qa2 qk qc2, .int .u8 pol], .bool B1, .agg #[.slice ca cn cc, .slice pa pn pc, .slice aa ak az, .slice qa qk qc, .int .u8 pol], .bool B1, .bool false, .bool false, .bool false, .agg #[.slice ca2 cn cc2, .slice pa2 pn pc2, .slice aa2 ak az2, .slice qa2 qk qc2, .int .u8 pol], .agg #[.string s0, .string s1, .string s2, .string s3, .int .i64 nn, .int .i64 co, .int .i64 lm, .slice da dn dc], .int .i64 C1, .agg #[.slice ca cn cc, .slice pa pn pc, .slice aa ak az, .slice qa qk qc, .int .u8 pol], .agg #[.string s0, .string s1, .string s2, .string s3, .int .i64 nn, .int .i64 co, .int .i64 lm, .slice da dn dc], .int .i64 C1, .bool false, .bool false, .bool false, .pointer (some ⟨g7, 2, none⟩), .slice aa2 ak az2, .slice ta tk tc, .pointer (some ⟨g4, 1, none⟩), .string s1, .bool B2, .pointer (some ⟨g3, 2, none⟩), .slice aa ak az, .slice ta tk tc, .pointer (some ⟨g4, 1, none⟩), .string s1, .bool B2, .bool false, .bool false]

set_option maxRecDepth 100000 in
set_option maxHeartbeats 8000000 in
theorem tel_law (ca pa aa qa : Option Addr) (cn cc pn pc ak az qk qc : Nat) (pol : Int) (I : List Int) (M : List (Prt × List ByteArray)) (A : List Acc) (Q : List Qu) (sp : Spc) (ta : Option Addr) (tk tc : Nat) (T : List ByteArray) (w : World)
    (hin : CfgIn w ca pa aa qa cn cc pn pc ak az qk qc I M A Q) (hmle : pn ≤ pc) (hmc : ∀ p ∈ M, p.1.dn ≤ p.1.dc) (hms : ∀ p ∈ M, p.1.name.size ≤ 9223372036854775807) (hsu : sp.user.size ≤ 9223372036854775807) (hT : T.length = tk) (htl : tk ≤ 4611686018427387904) (htat : TAt w ta T) :
    Calls Try.prog 3 #[.agg #[.slice ca cn cc, .slice pa pn pc, .slice aa ak az, .slice qa qk qc, .int .u8 pol], .agg (sc sp).toArray, .slice ta tk tc] w fun e w' => e = .returned (.bool true) ∧ Below w.heap.size w w' := by
  have k12z := fun ca2 pa2 aa2 qa2 cc2 pc2 az2 qc2 M' w' h => check_any ca2 pa2 aa2 qa2 cn cc2 pn pc2 ak az2 qk qc2 pol I M' A Q sp w' h
  have k13z := fun w' h => rchk_any ca pa aa qa cn cc pn pc ak az qk qc pol I M A Q sp w' h hsu
  obtain ⟨s0, s1, s2, s3, nn, co, lm, da, dn, dc⟩ := sp
  simp only [sc] at k12z k13z ⊢
  obtain ⟨W1, hW1⟩ : ∃ W1, W1 = w.alloc (.cells #[.slice ca cn cc, .slice pa pn pc, .slice aa ak az, .slice qa qk qc, .int .u8 pol] 28) := ⟨_, rfl⟩
  obtain ⟨W0, hW0⟩ : ∃ W0, W0 = W1.alloc (.cells #[.string s0, .string s1, .string s2, .string s3, .int .i64 nn, .int .i64 co, .int .i64 lm, .slice da dn dc] 31) := ⟨_, rfl⟩
  have b1 : Below w.heap.size w W1 := by rw [hW1]; exact below_lit _ _
  have b0 : Below W1.heap.size W1 W0 := by rw [hW0]; exact below_lit _ _
  have hz1 : W1.heap.size = w.heap.size + 1 := by rw [hW1, size_lit]
  have r3 : W0.rangeAt w.heap.size 0 [.slice ca cn cc, .slice pa pn pc, .slice aa ak az, .slice qa qk qc, .int .u8 pol] := range_below (by rw [hW1]; exact lit_range w 28 [.slice ca cn cc, .slice pa pn pc, .slice aa ak az, .slice qa qk qc, .int .u8 pol]) b0
  have r4 : W0.rangeAt (w.heap.size + 1) 0 [.string s0, .string s1, .string s2, .string s3, .int .i64 nn, .int .i64 co, .int .i64 lm, .slice da dn dc] := by rw [hW0, ← hz1]; exact lit_range W1 31 [.string s0, .string s1, .string s2, .string s3, .int .i64 nn, .int .i64 co, .int .i64 lm, .slice da dn dc]
  have B0 := bnext b1 b0
  have hW : Hid (W0 = (w.alloc (.cells #[.slice ca cn cc, .slice pa pn pc, .slice aa ak az, .slice qa qk qc, .int .u8 pol] 28)).alloc (.cells #[.string s0, .string s1, .string s2, .string s3, .int .i64 nn, .int .i64 co, .int .i64 lm, .slice da dn dc] 31)) := hid (by rw [hW0, hW1])
  clear hW0 hW1 b0 b1 hz1
  have kB := big_any ca pa aa qa cn cc pn pc ak az qk qc pol W0
  have v3 := fun r v h => r3 r v h
  have x0 := r3 0 _ rfl
  have x1 := r3 1 _ rfl
  have x2 := r3 2 _ rfl
  have x3 := r3 3 _ rfl
  have x4 := r3 4 _ rfl
  have y3 := r4 3 _ rfl
  clear v3
  simp only [Nat.zero_add] at x0 x1 x2 x3 x4 y3
  have hlt := World.block_lt_of_cell? W0 _ y3
  have hlv := World.block_lt_of_cell? W0 _ x0
  replace hT := hid hT
  replace htat := hid htat
  replace hin := hid hin
  replace hmc := hid hmc
  replace hms := hid hms
  replace r3 := hid r3
  replace r4 := hid r4
  by_cases hbig : 60 < cn ∨ 60 < pn ∨ 60 < ak ∨ 60 < qk
  · rw [show bigB cn pn ak qk = true from decide_eq_true hbig] at kB
    replace hbig := hid hbig
    go_enter Try.func3, Try.ntmps3
    go_wp2_with fail
    rw [← hW.out]
    refine kB.mono ?_
    rintro e w1 ⟨rfl, hb1⟩
    go_wp2_with fail
    refine (awake_any _).mono ?_
    rintro e w2 ⟨rfl, hb2⟩
    go_wp2
    go_ret
    exact ⟨rfl, bnext (bnext B0 hb1) hb2⟩
  rw [show bigB cn pn ak qk = false from decide_eq_false hbig] at kB
  by_cases htb : 60 < tk
  · have d2 : (60 : Int) < (tk : Int) := by omega
    replace hbig := hid hbig
    go_enter Try.func3, Try.ntmps3
    go_wp2_with fail
    rw [← hW.out]
    refine kB.mono ?_
    rintro e w1 ⟨rfl, hb1⟩
    go_wp2_with fail
    refine (awake_any _).mono ?_
    rintro e w2 ⟨rfl, hb2⟩
    go_wp2
    go_ret
    exact ⟨rfl, bnext (bnext B0 hb1) hb2⟩
  have d2 : ¬ (60 : Int) < (tk : Int) := by omega
  have hcn : cn ≤ 60 := by omega
  have hak : ak ≤ 60 := by omega
  replace hbig := hid hbig
  go_enter Try.func3, Try.ntmps3
  go_wp2_with fail
  rw [← hW.out]
  refine kB.mono ?_
  rintro e w1 ⟨rfl, hb1⟩
  have D1 := bnext B0 hb1
  replace r3 := hid (range_below r3.out hb1)
  replace r4 := hid (range_below r4.out hb1)
  replace x0 := stay hb1 x0
  replace x1 := stay hb1 x1
  replace x2 := stay hb1 x2
  replace x3 := stay hb1 x3
  replace x4 := stay hb1 x4
  replace y3 := stay hb1 y3
  replace hlt := World.block_lt_of_cell? w1 _ y3
  replace hlv := World.block_lt_of_cell? w1 _ x0
  clear kB hb1 B0 hW
  have kC := copycfg ca pa aa qa cn cc pn pc ak az qk qc pol I M A Q w1 (hin.out.below D1) (by omega)
  go_wp2_with fail
  refine kC.mono ?_
  rintro e w2 ⟨ca2, pa2, aa2, qa2, cc2, pc2, az2, qc2, M', rfl, hC2, hb2⟩
  have D2 := bnext D1 hb2
  replace r3 := hid (range_below r3.out hb2)
  replace r4 := hid (range_below r4.out hb2)
  clear kC x0 x2 x3 x4
  replace x1 := stay hb2 x1
  replace y3 := stay hb2 y3
  have hlt2 := World.block_lt_of_cell? w2 _ y3
  have hlv2 := World.block_lt_of_cell? w2 _ x1
  obtain ⟨W3, hW3⟩ : ∃ W3, W3 = w2.alloc (.cells #[.slice ca2 cn cc2, .slice pa2 pn pc2, .slice aa2 ak az2, .slice qa2 qk qc2, .int .u8 pol] 28) := ⟨_, rfl⟩
  have b3 : Below w2.heap.size w2 W3 := by rw [hW3]; exact below_lit _ _
  have r7 : W3.rangeAt w2.heap.size 0 [.slice ca2 cn cc2, .slice pa2 pn pc2, .slice aa2 ak az2, .slice qa2 qk qc2, .int .u8 pol] := by rw [hW3]; exact lit_range w2 28 [.slice ca2 cn cc2, .slice pa2 pn pc2, .slice aa2 ak az2, .slice qa2 qk qc2, .int .u8 pol]
  have D3 := bnext D2 b3
  have hre := hid hC2.2.2.1
  have hC3 := hid (hC2.below b3)
  have hCr := hid (cfr_copy (hin.out.below D3) hC3.out)
  have hCd : Hid (CfD W3 ca pa aa qa cn pn pc ak az qk qc I M A Q) := hid ⟨cfr_in (hin.out.below D3), by omega, hmle, hmc.out, hms.out, hin.out.asz, hin.out.qle, hin.out.qsz⟩
  clear hC2
  have kF := pfind_any pa2 pn pc2 (M'.map (·.1)) s3 W3 (by rw [List.length_map]; exact hCr.out.ml) hCr.out.mb hCr.out.mat
  rw [pi_re hre.out] at kF
  obtain ⟨vi, hvi⟩ := FRet_form (pi (M.map (·.1)) s3)
  rw [hvi] at kF
  have kG := fun w' (h : Below W3.heap.size W3 w') => rpfind_any pa pn pc (M.map (·.1)) s3 w' (by rw [List.length_map]; exact hCd.out.c.ml) hCd.out.c.mb (hCd.out.c.mat.below h)
  rw [hvi] at kG
  replace hvi := hid hvi
  generalize (pi (M.map (·.1)) s3).isSome = F at *
  replace hW3 := hid hW3
  replace r7 := hid r7
  have q1 := r7.out 1 _ rfl
  simp only [Nat.zero_add] at q1
  go_wp2_with fail
  rw [← hW3.out]
  refine kF.mono ?_
  rintro e w4 ⟨rfl, hb4⟩
  have D4 := bnext D3 hb4
  have x1b := stay (bnext b3 hb4) x1
  have y3b := stay (bnext b3 hb4) y3
  have hlt4 := World.block_lt_of_cell? w4 _ y3b
  have hlv4 := World.block_lt_of_cell? w4 _ x1b
  go_wp2_with fail
  refine (kG _ hb4).mono ?_
  rintro e w5 ⟨rfl, rfl⟩
  replace hCr := hid (hCr.out.below hb4)
  replace hCd := hid (hCd.out.below hb4)
  replace hC3 := hid (hC3.out.below hb4)
  replace r7 := range_below r7.out hb4
  replace r3 := range_below r3.out (bnext b3 hb4)
  replace r4 := range_below r4.out (bnext b3 hb4)
  clear kF kG x1 y3 hlt2 hlv2 q1 hW3 b3 D3 hb2 x1b y3b hlt4 hlv4 hlt hlv
  have c72 := r7 2 _ rfl
  have c32 := r3 2 _ rfl
  have c41 := r4 1 _ rfl
  simp only [Nat.zero_add] at c72 c32 c41
  generalize hg7 : w2.heap.size = g7 at *
  replace hg7 := hid hg7
  generalize hg4 : w.heap.size + 1 = g4 at *
  replace hg4 := hid hg4
  have hD5 := hid D4
  have k10 := hid (fun w' (h : Below w5.heap.size w5 w') => prt_any ca2 pa2 aa2 qa2 cn cc2 pn pc2 ak az2 qk qc2 pol I M' A Q w' (hCr.out.below h))
  rw [rcB_re hre.out] at k10
  have k11 := hid (fun w' (h : Below w5.heap.size w5 w') => rprt_any ca pa aa qa cn cc pn pc ak az qk qc pol I M A Q w' (hCd.out.below h))
  have k12 := hid (fun w' (h : Below w5.heap.size w5 w') => k12z ca2 pa2 aa2 qa2 cc2 pc2 az2 qc2 M' w' (hCr.out.below h))
  simp only [chkP_re hre.out] at k12
  have k13 := hid (fun w' (h : Below w5.heap.size w5 w') => k13z w' (hCd.out.below h))
  have k14 := hid (fun w' (h : Below w5.heap.size w5 w') => admits_any aa2 ak az2 A ta tk tc T s1 w' hCr.out.al hCr.out.ab hCr.out.ale (hCr.out.aat.below h) hT.out htl (htat.out.below (bnext hD5.out h)))
  have k15 := hid (fun w' (h : Below w5.heap.size w5 w') => radm_any aa ak az A ta tk tc T s1 w' hCd.out.c.al hCd.out.c.ab hCd.out.c.ale hCd.out.asz (hCd.out.c.aat.below h) hT.out htl (htat.out.below (bnext hD5.out h)))
  clear k12z k13z
  generalize rcB I M A Q pol = B1 at *
  generalize chkP I M A Q pol ⟨s0, s1, s2, s3, nn, co, lm, da, dn, dc⟩ = C1 at *
  generalize admB A T s1 = B2 at *
  generalize hg3 : w.heap.size = g3 at r3 c32 ⊢
  replace hg3 := hid hg3
  go_wp2_with fail
  refine wp_region_drawn (Rel := fun w w' => Below w.heap.size w w') (Pr := PrV (pv3 ta tk tc g3 g4 g7 vi F B1 B2 C1 ca pa aa qa ca2 pa2 aa2 qa2 cn cc pn pc ak az qk qc cc2 pc2 az2 qc2 pol s0 s1 s2 s3 nn co lm da dn dc) [] (fun _ _ _ => True)) (by kernel_rfl) (by kernel_rfl) (drew_below _) bel_tr (PrV.mono (fun _ _ _ _ _ _ => trivial)) ?_ ?_
  · refine ⟨?_, ?_, ?_, ?_, ?_, ?_, ?_, ?_, ?_, ?_, ?_, ?_, ?_, ?_, ?_, ?_, ?_, ?_, ?_, ?_, ?_, ?_, ?_, ?_, ?_, ?_, ?_, ?_, ?_, ?_, ?_, ?_, ?_, ?_, ?_, ?_, ?_, ?_, ?_, trivial⟩
    · exact fun ac w hR hd hk K hK => yes (want_n rfl) (wp_mv _ rfl _ (get_keep (hk 8 (no_dst (by kernel_rfl))) rfl) (hK _ w (PrV.is rfl rfl) (Below.refl _ _)))
    · exact fun ac w hR hd hk K hK => yes (want_n rfl) (wp_mv _ rfl _ (get_keep (hk 10 (no_dst (by kernel_rfl))) rfl) (hK _ w (PrV.is rfl rfl) (Below.refl _ _)))
    · intro ac w hR hd hk K hK
      have e38 : ac.tmps[38]?.getD undef = (.int .i64 vi : Value) := slot ((hd 0 _ 38 rfl rfl rfl).val rfl)
      have e39 : ac.tmps[39]?.getD undef = (.int .i64 vi : Value) := slot ((hd 1 _ 39 rfl rfl rfl).val rfl)
      refine yes (want_n rfl) ?_
      have hv := hid (hK (.bool false) w (PrV.is rfl rfl) (Below.refl _ _))
      go_simp
      refine kq hv.out ?_
      simp
    · exact fun ac w hR hd hk K hK => yes (want_n rfl) (wp_mv _ rfl _ ((hd 2 _ 40 rfl rfl rfl).val rfl) (hK _ w (PrV.is rfl rfl) (Below.refl _ _)))
    · exact fun ac w hR hd hk K hK => yes (want_g rfl rfl ((hd 3 _ 41 rfl rfl rfl).val rfl)) (wp_mv _ rfl _ (get_keep (hk 9 (no_dst (by kernel_rfl))) rfl) (hK _ w (PrV.is rfl rfl) (Below.refl _ _)))
    · exact fun ac w hR hd hk K hK => yes (want_g rfl rfl ((hd 3 _ 41 rfl rfl rfl).val rfl)) (wp_mv _ rfl _ (get_keep (hk 11 (no_dst (by kernel_rfl))) rfl) (hK _ w (PrV.is rfl rfl) (Below.refl _ _)))
    · intro ac w hR hd hk K hK
      have e42 : ac.tmps[42]?.getD undef = (.bool F : Value) := slot ((hd 4 _ 42 rfl rfl rfl).val rfl)
      have e43 : ac.tmps[43]?.getD undef = (.bool F : Value) := slot ((hd 5 _ 43 rfl rfl rfl).val rfl)
      refine yes (want_g rfl rfl ((hd 3 _ 41 rfl rfl rfl).val rfl)) ?_
      have hv := hid (hK (.bool false) w (PrV.is rfl rfl) (Below.refl _ _))
      go_simp
      refine kq hv.out ?_
      cases F <;> rfl
    · exact fun ac w hR hd hk K hK => yes (want_n rfl) (wp_pick _ _ _ rfl false _ ((hd 3 _ 41 rfl rfl rfl).val rfl) ((hd 6 _ 44 rfl rfl rfl).val rfl) (hK _ w (PrV.is rfl rfl) (Below.refl _ _)))
    · exact fun ac w hR hd hk K hK => yes (want_n rfl) (wp_mv _ rfl _ ((hd 7 _ 45 rfl rfl rfl).val rfl) (hK _ w (PrV.is rfl rfl) (Below.refl _ _)))
    · exact fun ac w hR hd hk K hK => yes (want_g rfl rfl ((hd 8 _ 46 rfl rfl rfl).val rfl)) (wp_load_mid 28 _ rfl g7 0 (get_keep (hk 7 (no_dst (by kernel_rfl))) rfl) ([.slice ca2 cn cc2, .slice pa2 pn pc2, .slice aa2 ak az2, .slice qa2 qk qc2, .int .u8 pol]) _ (range_below r7 hR) Try.underlying28 rfl (by kernel_rfl) (hK _ w (PrV.is rfl rfl) (Below.refl _ _)))
    · exact fun ac w hR hd hk K hK => yes (want_g rfl rfl ((hd 8 _ 46 rfl rfl rfl).val rfl)) (wp_callv 10 _ _ rfl _ Try.func10 rfl rfl _ (args1 ((hd 9 _ 47 rfl rfl rfl).val rfl)) (k10.out w hR) (by rintro e w' ⟨rfl, hb⟩; exact ⟨_, rfl, hK _ w' (PrV.is rfl rfl) (hb)⟩))
    · exact fun ac w hR hd hk K hK => yes (want_g rfl rfl ((hd 8 _ 46 rfl rfl rfl).val rfl)) (wp_load_mid 28 _ rfl g3 0 (get_keep (hk 3 (no_dst (by kernel_rfl))) rfl) ([.slice ca cn cc, .slice pa pn pc, .slice aa ak az, .slice qa qk qc, .int .u8 pol]) _ (range_below r3 hR) Try.underlying28 rfl (by kernel_rfl) (hK _ w (PrV.is rfl rfl) (Below.refl _ _)))
    · exact fun ac w hR hd hk K hK => yes (want_g rfl rfl ((hd 8 _ 46 rfl rfl rfl).val rfl)) (wp_callv 11 _ _ rfl _ Try.func11 rfl rfl _ (args1 ((hd 11 _ 49 rfl rfl rfl).val rfl)) (k11.out w hR) (by rintro e w' ⟨rfl, hb⟩; exact ⟨_, rfl, hK _ w' (PrV.is rfl rfl) (hb)⟩))
    · intro ac w hR hd hk K hK
      have e48 : ac.tmps[48]?.getD undef = (.bool B1 : Value) := slot ((hd 10 _ 48 rfl rfl rfl).val rfl)
      have e50 : ac.tmps[50]?.getD undef = (.bool B1 : Value) := slot ((hd 12 _ 50 rfl rfl rfl).val rfl)
      refine yes (want_g rfl rfl ((hd 8 _ 46 rfl rfl rfl).val rfl)) ?_
      have hv := hid (hK (.bool false) w (PrV.is rfl rfl) (Below.refl _ _))
      go_simp
      refine kq hv.out ?_
      cases B1 <;> rfl
    · exact fun ac w hR hd hk K hK => yes (want_n rfl) (wp_pick _ _ _ rfl false _ ((hd 8 _ 46 rfl rfl rfl).val rfl) ((hd 13 _ 51 rfl rfl rfl).val rfl) (hK _ w (PrV.is rfl rfl) (Below.refl _ _)))
    · exact fun ac w hR hd hk K hK => yes (want_n rfl) (wp_mv _ rfl _ ((hd 14 _ 52 rfl rfl rfl).val rfl) (hK _ w (PrV.is rfl rfl) (Below.refl _ _)))
    · exact fun ac w hR hd hk K hK => yes (want_g rfl rfl ((hd 15 _ 53 rfl rfl rfl).val rfl)) (wp_load_mid 28 _ rfl g7 0 (get_keep (hk 7 (no_dst (by kernel_rfl))) rfl) ([.slice ca2 cn cc2, .slice pa2 pn pc2, .slice aa2 ak az2, .slice qa2 qk qc2, .int .u8 pol]) _ (range_below r7 hR) Try.underlying28 rfl (by kernel_rfl) (hK _ w (PrV.is rfl rfl) (Below.refl _ _)))
    · exact fun ac w hR hd hk K hK => yes (want_g rfl rfl ((hd 15 _ 53 rfl rfl rfl).val rfl)) (wp_load_mid 31 _ rfl g4 0 (get_keep (hk 4 (no_dst (by kernel_rfl))) rfl) ([.string s0, .string s1, .string s2, .string s3, .int .i64 nn, .int .i64 co, .int .i64 lm, .slice da dn dc]) _ (range_below r4 hR) Try.underlying31 rfl (by kernel_rfl) (hK _ w (PrV.is rfl rfl) (Below.refl _ _)))
    · exact fun ac w hR hd hk K hK => yes (want_g rfl rfl ((hd 15 _ 53 rfl rfl rfl).val rfl)) (wp_callv 12 _ _ rfl _ Try.func12 rfl rfl _ (args2 ((hd 16 _ 54 rfl rfl rfl).val rfl) ((hd 17 _ 55 rfl rfl rfl).val rfl)) (k12.out w hR) (by rintro e w' ⟨rfl, hb⟩; exact ⟨_, rfl, hK _ w' (PrV.is rfl rfl) (hb)⟩))
    · exact fun ac w hR hd hk K hK => yes (want_g rfl rfl ((hd 15 _ 53 rfl rfl rfl).val rfl)) (wp_load_mid 28 _ rfl g3 0 (get_keep (hk 3 (no_dst (by kernel_rfl))) rfl) ([.slice ca cn cc, .slice pa pn pc, .slice aa ak az, .slice qa qk qc, .int .u8 pol]) _ (range_below r3 hR) Try.underlying28 rfl (by kernel_rfl) (hK _ w (PrV.is rfl rfl) (Below.refl _ _)))
    · exact fun ac w hR hd hk K hK => yes (want_g rfl rfl ((hd 15 _ 53 rfl rfl rfl).val rfl)) (wp_load_mid 31 _ rfl g4 0 (get_keep (hk 4 (no_dst (by kernel_rfl))) rfl) ([.string s0, .string s1, .string s2, .string s3, .int .i64 nn, .int .i64 co, .int .i64 lm, .slice da dn dc]) _ (range_below r4 hR) Try.underlying31 rfl (by kernel_rfl) (hK _ w (PrV.is rfl rfl) (Below.refl _ _)))
    · exact fun ac w hR hd hk K hK => yes (want_g rfl rfl ((hd 15 _ 53 rfl rfl rfl).val rfl)) (wp_callv 13 _ _ rfl _ Try.func13 rfl rfl _ (args2 ((hd 19 _ 57 rfl rfl rfl).val rfl) ((hd 20 _ 58 rfl rfl rfl).val rfl)) (k13.out w hR) (by rintro e w' ⟨rfl, hb⟩; exact ⟨_, rfl, hK _ w' (PrV.is rfl rfl) (hb)⟩))
    · intro ac w hR hd hk K hK
      have e56 : ac.tmps[56]?.getD undef = (.int .i64 C1 : Value) := slot ((hd 18 _ 56 rfl rfl rfl).val rfl)
      have e59 : ac.tmps[59]?.getD undef = (.int .i64 C1 : Value) := slot ((hd 21 _ 59 rfl rfl rfl).val rfl)
      refine yes (want_g rfl rfl ((hd 15 _ 53 rfl rfl rfl).val rfl)) ?_
      have hv := hid (hK (.bool false) w (PrV.is rfl rfl) (Below.refl _ _))
      go_simp
      refine kq hv.out ?_
      simp
    · exact fun ac w hR hd hk K hK => yes (want_n rfl) (wp_pick _ _ _ rfl false _ ((hd 15 _ 53 rfl rfl rfl).val rfl) ((hd 22 _ 60 rfl rfl rfl).val rfl) (hK _ w (PrV.is rfl rfl) (Below.refl _ _)))
    · exact fun ac w hR hd hk K hK => yes (want_n rfl) (wp_mv _ rfl _ ((hd 23 _ 61 rfl rfl rfl).val rfl) (hK _ w (PrV.is rfl rfl) (Below.refl _ _)))
    · intro ac w hR hd hk K hK
      have e7 : ac.tmps[7]?.getD undef = (.pointer (some ⟨g7, 0, none⟩) : Value) := slot (get_keep (hk 7 (no_dst (by kernel_rfl))) rfl)
      refine yes (want_g rfl rfl ((hd 24 _ 62 rfl rfl rfl).val rfl)) ?_
      have hv := hid (hK (.pointer (some ⟨g7, 2, none⟩)) w (PrV.is rfl rfl) (Below.refl _ _))
      go_simp
      refine kq hv.out ?_
      rfl
    · intro ac w hR hd hk K hK
      have e63 : ac.tmps[63]?.getD undef = (.pointer (some ⟨g7, 2, none⟩) : Value) := slot ((hd 25 _ 63 rfl rfl rfl).val rfl)
      have x0 := stay hR c72
      refine yes (want_g rfl rfl ((hd 24 _ 62 rfl rfl rfl).val rfl)) ?_
      have hv := hid (hK (.slice aa2 ak az2) w (PrV.is rfl rfl) (Below.refl _ _))
      go_simp
      refine kq hv.out ?_
      rfl
    · exact fun ac w hR hd hk K hK => yes (want_g rfl rfl ((hd 24 _ 62 rfl rfl rfl).val rfl)) (wp_mv _ rfl _ (get_keep (hk 2 (no_dst (by kernel_rfl))) rfl) (hK _ w (PrV.is rfl rfl) (Below.refl _ _)))
    · intro ac w hR hd hk K hK
      have e4 : ac.tmps[4]?.getD undef = (.pointer (some ⟨g4, 0, none⟩) : Value) := slot (get_keep (hk 4 (no_dst (by kernel_rfl))) rfl)
      refine yes (want_g rfl rfl ((hd 24 _ 62 rfl rfl rfl).val rfl)) ?_
      have hv := hid (hK (.pointer (some ⟨g4, 1, none⟩)) w (PrV.is rfl rfl) (Below.refl _ _))
      go_simp
      refine kq hv.out ?_
      rfl
    · intro ac w hR hd hk K hK
      have e66 : ac.tmps[66]?.getD undef = (.pointer (some ⟨g4, 1, none⟩) : Value) := slot ((hd 28 _ 66 rfl rfl rfl).val rfl)
      have x0 := stay hR c41
      refine yes (want_g rfl rfl ((hd 24 _ 62 rfl rfl rfl).val rfl)) ?_
      have hv := hid (hK (.string s1) w (PrV.is rfl rfl) (Below.refl _ _))
      go_simp
      refine kq hv.out ?_
      rfl
    · exact fun ac w hR hd hk K hK => yes (want_g rfl rfl ((hd 24 _ 62 rfl rfl rfl).val rfl)) (wp_callv 14 _ _ rfl _ Try.func14 rfl rfl _ (args3 ((hd 26 _ 64 rfl rfl rfl).val rfl) ((hd 27 _ 65 rfl rfl rfl).val rfl) ((hd 29 _ 67 rfl rfl rfl).val rfl)) (k14.out w hR) (by rintro e w' ⟨rfl, hb⟩; exact ⟨_, rfl, hK _ w' (PrV.is rfl rfl) (hb)⟩))
    · intro ac w hR hd hk K hK
      have e3 : ac.tmps[3]?.getD undef = (.pointer (some ⟨g3, 0, none⟩) : Value) := slot (get_keep (hk 3 (no_dst (by kernel_rfl))) rfl)
      refine yes (want_g rfl rfl ((hd 24 _ 62 rfl rfl rfl).val rfl)) ?_
      have hv := hid (hK (.pointer (some ⟨g3, 2, none⟩)) w (PrV.is rfl rfl) (Below.refl _ _))
      go_simp
      refine kq hv.out ?_
      rfl
    · intro ac w hR hd hk K hK
      have e69 : ac.tmps[69]?.getD undef = (.pointer (some ⟨g3, 2, none⟩) : Value) := slot ((hd 31 _ 69 rfl rfl rfl).val rfl)
      have x0 := stay hR c32
      refine yes (want_g rfl rfl ((hd 24 _ 62 rfl rfl rfl).val rfl)) ?_
      have hv := hid (hK (.slice aa ak az) w (PrV.is rfl rfl) (Below.refl _ _))
      go_simp
      refine kq hv.out ?_
      rfl
    · exact fun ac w hR hd hk K hK => yes (want_g rfl rfl ((hd 24 _ 62 rfl rfl rfl).val rfl)) (wp_mv _ rfl _ (get_keep (hk 2 (no_dst (by kernel_rfl))) rfl) (hK _ w (PrV.is rfl rfl) (Below.refl _ _)))
    · intro ac w hR hd hk K hK
      have e4 : ac.tmps[4]?.getD undef = (.pointer (some ⟨g4, 0, none⟩) : Value) := slot (get_keep (hk 4 (no_dst (by kernel_rfl))) rfl)
      refine yes (want_g rfl rfl ((hd 24 _ 62 rfl rfl rfl).val rfl)) ?_
      have hv := hid (hK (.pointer (some ⟨g4, 1, none⟩)) w (PrV.is rfl rfl) (Below.refl _ _))
      go_simp
      refine kq hv.out ?_
      rfl
    · intro ac w hR hd hk K hK
      have e72 : ac.tmps[72]?.getD undef = (.pointer (some ⟨g4, 1, none⟩) : Value) := slot ((hd 34 _ 72 rfl rfl rfl).val rfl)
      have x0 := stay hR c41
      refine yes (want_g rfl rfl ((hd 24 _ 62 rfl rfl rfl).val rfl)) ?_
      have hv := hid (hK (.string s1) w (PrV.is rfl rfl) (Below.refl _ _))
      go_simp
      refine kq hv.out ?_
      rfl
    · exact fun ac w hR hd hk K hK => yes (want_g rfl rfl ((hd 24 _ 62 rfl rfl rfl).val rfl)) (wp_callv 15 _ _ rfl _ Try.func15 rfl rfl _ (args3 ((hd 32 _ 70 rfl rfl rfl).val rfl) ((hd 33 _ 71 rfl rfl rfl).val rfl) ((hd 35 _ 73 rfl rfl rfl).val rfl)) (k15.out w hR) (by rintro e w' ⟨rfl, hb⟩; exact ⟨_, rfl, hK _ w' (PrV.is rfl rfl) (hb)⟩))
    · intro ac w hR hd hk K hK
      have e68 : ac.tmps[68]?.getD undef = (.bool B2 : Value) := slot ((hd 30 _ 68 rfl rfl rfl).val rfl)
      have e74 : ac.tmps[74]?.getD undef = (.bool B2 : Value) := slot ((hd 36 _ 74 rfl rfl rfl).val rfl)
      refine yes (want_g rfl rfl ((hd 24 _ 62 rfl rfl rfl).val rfl)) ?_
      have hv := hid (hK (.bool false) w (PrV.is rfl rfl) (Below.refl _ _))
      go_simp
      refine kq hv.out ?_
      cases B2 <;> rfl
    · exact fun ac w hR hd hk K hK => yes (want_n rfl) (wp_pick _ _ _ rfl false _ ((hd 24 _ 62 rfl rfl rfl).val rfl) ((hd 37 _ 75 rfl rfl rfl).val rfl) (hK _ w (PrV.is rfl rfl) (Below.refl _ _)))
  · intro a w6 hdf hsz hkp hval hRw
    obtain ⟨f, hf⟩ : ∃ f, f = fun d => a.tmps.getD d undef := ⟨_, rfl⟩
    have h76 : f 76 = .bool false := by rw [hf]; exact (hval 38 _ 76 rfl rfl).val rfl
    have hfa := act_filled hdf hsz hkp
    rw [← hf] at hfa
    rw [hfa]
    clear hdf hsz hkp hval hfa hf
    clear a
    simp only [fillAll, List.set_cons_zero, List.set_cons_succ, h76]
    clear h76
    replace r7 := range_below r7 hRw
    replace r3 := range_below r3 hRw
    have kS := samecfg ca pa aa qa cn cc pn pc ak az qk qc pol I M A Q ca2 pa2 aa2 qa2 cc2 pc2 az2 qc2 M' w6 (hin.out.below (bnext hD5.out hRw)) (hC3.out.below hRw)
    have z0 := r7 0 _ rfl
    have z1 := r7 1 _ rfl
    have z2 := r7 2 _ rfl
    have z3 := r7 3 _ rfl
    have z4 := r7 4 _ rfl
    have o0 := r3 0 _ rfl
    have o1 := r3 1 _ rfl
    have o2 := r3 2 _ rfl
    have o3 := r3 3 _ rfl
    have o4 := r3 4 _ rfl
    simp only [Nat.zero_add] at z0 z1 z2 z3 z4 o0 o1 o2 o3 o4
    have lz := World.block_lt_of_cell? w6 _ z0
    have lo := World.block_lt_of_cell? w6 _ o0
    replace r7 := hid r7
    replace r3 := hid r3
    replace r4 := hid r4
    go_wp2_with fail
    refine kS.mono ?_
    rintro e w7 ⟨rfl, hb7⟩
    go_wp2_with fail
    refine (awake_any _).mono ?_
    rintro e w8 ⟨rfl, hb8⟩
    go_wp2
    go_ret
    refine ⟨rfl, ?_⟩
    exact bnext (bnext (bnext hD5.out hRw) hb7) hb8

end Go.Proofs.Ytilncacmkfohdaa
