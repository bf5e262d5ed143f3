/- The document's Add. -/
import Derived.Test.YticlpjpbjgfgmaaSort
namespace Go.Proofs.Yticlpjpbjgfgmaa
open Go.RowKit

theorem int_one (x : Int) : ∀ u ∈ [Value.int .i64 x], u.oneCell' = true := by
  intro u hu; simp at hu; subst hu; rfl

/-- The row of times while it is put in order. -/
structure SR (w0 w : World) (base : Nat) (v : Value) (C : List Cut) (a b : Int) (S : List Int) : Prop where
  own : TOwn w base v S
  len : S.length = C.length + 2
  has : ∀ x, Has S x ↔ Has (T0 C a b C.length) x
  bel : Below w0.heap.size w0 w
  lo : w0.heap.size ≤ base

theorem SR.drewN {w0 w : World} {base : Nat} {v : Value} {C : List Cut} {a b : Int} {S : List Int} (h : SR w0 w base v C a b S) (k : Nat) : SR w0 (w.drewN k) base v C a b S :=
  ⟨h.own, h.len, h.has, below_drewN h.bel k, h.lo⟩

theorem SR.swap {w0 w : World} {base g n cap : Nat} {C : List Cut} {a b : Int} {S : List Int} (h : SR w0 w base (.slice (some ⟨g, 0, none⟩) n cap) C a b S) (hn : S.length = n) {k : Nat} (h0 : 0 < k) (hk : k < n) :
    SR w0 ((w.setCell ⟨g, k, none⟩ (.int .i64 (gd S (k - 1)))).setCell ⟨g, k - 1, none⟩ (.int .i64 (gd S k))) base (.slice (some ⟨g, 0, none⟩) n cap) C a b (swap S k) := by
  have o1 := h.own.set hn k (gd S (k - 1))
  have o2 := o1.set (by rw [List.length_set]; exact hn) (k - 1) (gd S k)
  have hg : base ≤ g := (World.ownsRow.lt h.own g rfl).1
  have K : Kp (fun k => k = g) w ((w.setCell ⟨g, k, none⟩ (.int .i64 (gd S (k - 1)))).setCell ⟨g, k - 1, none⟩ (.int .i64 (gd S k))) := Kp.setCell (S := fun k => k = g) (p := ⟨g, k - 1, none⟩) (Kp.setCell (S := fun k => k = g) (p := ⟨g, k, none⟩) (Kp.refl _ _) rfl _) rfl _
  refine ⟨o2, by rw [swap_len]; exact h.len, fun x => (has_swap S k h0 (by omega) x).trans (h.has x), ?_, h.lo⟩
  exact h.bel.trans (K.below (fun k e => by have := h.lo; omega) h.bel.size)

theorem SR.drew {w0 w : World} {base : Nat} {v : Value} {C : List Cut} {a b : Int} {S : List Int} (h : SR w0 w base v C a b S) : SR w0 w.drew base v C a b S :=
  ⟨h.own, h.len, h.has, h.bel.trans ((drew_below _).mono h.bel.size), h.lo⟩

theorem SR.tms {w0 w : World} {base : Nat} {v : Value} {C : List Cut} {a b : Int} {S : List Int} (h : SR w0 w base v C a b S) (hs : SortTo S S.length) : Tms C a b S := ⟨hs, h.len, h.has⟩

theorem ds_nil (g : Int → Int) {S : List Int} : Ds g ([], false) (upTo S 0) := by
  refine ⟨fun i hi => absurd hi (by simp), fun i hi => absurd hi (by simp), fun h => absurd h (by simp [upTo]), fun t h3 h4 => by simp [upTo] at h4; omega, ?_⟩
  constructor
  · intro h3; cases h3
  · rintro ⟨t, h3, h4, _⟩; simp [upTo] at h4; omega

set_option maxRecDepth 100000 in
set_option maxHeartbeats 4000000 in
theorem addr_any (s : Option Addr) (n c : Nat) (C : List Cut) (p q m : Int) (w : World) (hn : C.length = n) (hl : n ≤ 4611686018427387904) (hat : SAt w s C) :
    Calls Try.prog 67 #[.slice s n c, .int .i64 p, .int .i64 q, .int .i64 m] w fun e w' => Told (addA C p q m) w e w' := by
  obtain ⟨i2, hi2, hz20, hz21, hz22⟩ := info_parts info2
  obtain ⟨i36, hi36, hz0, hz1, hz2⟩ := info_parts info36
  have kW := windowr_any s n c C p q w hn hl hat
  replace hn := hid hn
  replace hat := hid hat
  by_cases h0 : RightP C ∧ winP p q
  · rw [rightB_iff.2 h0.1, winB_iff.2 h0.2, Bool.and_self] at kW
    by_cases h1 : m < -1073741824
    · have hf := hid (show addA C p q m = ([], 2) from if_neg fun h => by have := h.2.2; omega)
      have d1 : decide (m < -1073741824) = true := decide_eq_true h1
      replace h0 := hid h0
      go_enter Try.func67, Try.ntmps67
      go_wp2_with fail
      refine kW.mono ?_
      rintro e w1 ⟨rfl, B1⟩
      go_wp2
      go_ret2
      rw [hf.out]
      exact ⟨_, _, rfl, SOwn.nil _ _, B1⟩
    · have d1 : decide (m < -1073741824) = false := decide_eq_false h1
      by_cases h2 : 1073741824 < m
      · have hf := hid (show addA C p q m = ([], 2) from if_neg fun h => by have := h.2.2; omega)
        have d2 : decide (1073741824 < m) = true := decide_eq_true h2
        replace h0 := hid h0
        go_enter Try.func67, Try.ntmps67
        go_wp2_with fail
        refine kW.mono ?_
        rintro e w1 ⟨rfl, B1⟩
        go_wp2
        go_ret2
        rw [hf.out]
        exact ⟨_, _, rfl, SOwn.nil _ _, B1⟩
      · have d2 : decide (1073741824 < m) = false := decide_eq_false h2
        have hg := hid (show argP C p q m from ⟨h0.1, h0.2, by omega⟩)
        have hl2 : n ≤ 4096 := by rw [← hn.out]; exact h0.1.2.1
        replace h0 := hid h0
        go_enter Try.func67, Try.ntmps67
        go_wp2_with fail
        refine kW.mono ?_
        rintro e w1 ⟨rfl, B1⟩
        have L1 := TOwn.lit w1 p q
        have b1 := below_lit w1 (.cells #[.int .i64 p, .int .i64 q] 2)
        have B2 := bnext B1 b1
        have hz1' : w.heap.size ≤ w1.heap.size := B1.size
        go_wp2_with fail
        go_loopw [10, 11] (fun v i wr => ∃ j : Nat, j ≤ n ∧ i = .int .i64 (j : Int) ∧ Hid (TOwn wr w1.heap.size v (T0 C p q j)) ∧ Below w.heap.size w wr) (fun _ i _ => n - (intOf i).toNat)
        case atStart => exact ⟨0, Nat.zero_le _, rfl, hid L1, B2⟩
        case round =>
          obtain ⟨j, hj, rfl, hv, hb⟩ := hrel
          clear B2 b1 L1 kW
          by_cases hlt : j < n
          · have hjL : j < C.length := by rw [hn.out]; exact hlt
            obtain ⟨cb, co, e⟩ := hat.out.place (by omega)
            subst e
            have y0 := ((hat.out.below hb).one hjL).1
            have hts := hid (T0_snoc p q hjL)
            have htl := hid (T0_len C p q (show j ≤ C.length by omega))
            generalize T0 C p q j = T at *
            generalize tm C j = X at *
            go_wp2_with (at_builtin; refine Hid.out ?_)
            have bl := below_lit wr (.cells #[.int .i64 X] 2)
            have hv2 := hv.out.below bl
            unfold TOwn at hv2
            rw [htl.out] at hv2
            have B3 := bnext hb bl
            have hz3 : w1.heap.size ≤ (wr.alloc (.cells #[.int .i64 X] 2)).heap.size := by
              have hh := (hv.out.form (by rw [htl.out]; omega))
              obtain ⟨g, cc, _, _, h3, h4⟩ := hh
              rw [size_alloc]; omega
            refine wpList_cat _ rfl (.tmp 39) (.tmp 45) 78 rfl w1.heap.size 2 i2 _ 1 8 Try.underlying78 hi2 hz20 hz21 hz22 rfl (by omega) _ _ _ rfl hv2 (some ⟨wr.heap.size, 0, none⟩) 1 _ [.int .i64 X] rfl rfl (cat_lit _ _ _ _ rfl) (int_one _) (by unfold maxLen; omega) (by omega) hz3 ?_
            intro v3 w3 hr3 hg3 hv3
            have B4 := B3.grown hg3 B3.size (fun k hk => by have := (hv2.lt k hk).1; omega)
            clear hv3 hg3 hv2 bl B3
            go_wp2_with fail
            go_roundw
            case rel =>
              refine ⟨j + 1, by omega, by go_num, ?_, B4⟩
              rw [hts.out]
              refine hid ?_
              unfold TOwn
              rw [List.length_append, htl.out, List.map_append]
              exact hr3
            case measure => simp [intOf]; omega
          · have hje : j = n := by omega
            subst hje
            have eT : T0 C p q j = T0 C p q C.length := by rw [hn.out]
            rw [eT] at hv
            replace eT := hid eT
            have hTl := hid (T0_len C p q (Nat.le_refl C.length))
            obtain ⟨g, cap, hve, hcap, hgb, hgl⟩ := hv.out.form (by rw [hTl.out]; omega)
            subst hve
            rw [hTl.out, hn.out] at hv hcap ⊢
            have sr0 := hid (show SR w wr w1.heap.size (.slice (some ⟨g, 0, none⟩) (j + 2) cap) C p q (T0 C p q C.length) from ⟨by have := hv.out; rw [eT.out] at this; exact this, hTl.out, fun x => Iff.rfl, hb, hz1'⟩)
            have hM : C.length + 2 = j + 2 := by rw [hn.out]
            replace hM := hid hM
            clear hTl hv
            have hst := hid (show SortTo (T0 C p q C.length) 1 from fun p q h1 h2 => by omega)
            generalize T0 C p q C.length = TT at *
            have hM1 : 2 ≤ j + 2 := by omega
            have hM2 : j + 2 ≤ 4098 := by omega
            generalize j + 2 = MM at *
            go_wp2_with fail
            go_loopw [12] (fun i wr => ∃ k : Nat, 1 ≤ k ∧ k ≤ MM ∧ i = .int .i64 (k : Int) ∧ ∃ S, Hid (SR w wr w1.heap.size (.slice (some ⟨g, 0, none⟩) MM cap) C p q S) ∧ Hid (SortTo S k)) (fun i _ => MM - (intOf i).toNat)
            case atStart => exact ⟨1, by omega, by omega, rfl, TT, sr0, hst⟩
            case round =>
              obtain ⟨k, hk1, hkm, rfl, S, hS, hso⟩ := hrel
              by_cases hlt2 : k < MM
              · obtain ⟨wo, rfl⟩ : ∃ wo : World, wo = wr := ⟨_, rfl⟩
                go_wp2_with fail
                go_loopw [13] (fun i wr => ∃ t : Nat, t ≤ k ∧ i = .int .i64 (t : Int) ∧ ∃ S, Hid (SR w wr w1.heap.size (.slice (some ⟨g, 0, none⟩) MM cap) C p q S) ∧ Hid (Inner S k t)) (fun i _ => (intOf i).toNat)
                case atStart => exact ⟨k, Nat.le_refl _, rfl, S, hS, hid hso.out.inner⟩
                case round =>
                  clear hS hso
                  obtain ⟨t, htk, rfl, S2, hS, hI⟩ := hrel
                  have hSl : S2.length = MM := hS.out.len.trans hM.out
                  rcases Nat.eq_zero_or_pos t with ht0 | ht0
                  · subst ht0
                    have hso2 := hid (hI.out.done (.inl rfl))
                    go_wp2_with fail
                    go_quiet (fail)
                    have hS2 := hid (hS.out.drewN nq)
                    generalize wr.drewN nq = wq at *
                    go_wp2_with fail
                    go_roundw
                    case rel => exact ⟨k + 1, by omega, by omega, by go_num, S2, hS2, hso2⟩
                    case measure => simp [intOf]; omega
                  · obtain ⟨r, rfl⟩ : ∃ r, t = r + 1 := ⟨t - 1, by omega⟩
                    have y1 := hS.out.own.cellAt hSl (r + 1) (by omega)
                    have y0 := hS.out.own.cellAt hSl r (by omega)
                    have f1 := hS.out.own.free hSl (r + 1)
                    have f0 := hS.out.own.free hSl r
                    have dp : decide ((0 : Int) < (r : Int) + 1) = true := decide_eq_true (by omega)
                    have hrw : IntKind.i64.wrap ((r : Int) + 1 - 1) = (r : Int) := by rw [IntKind.wrap_i64]; omega
                    have hrv : IntKind.i64.wrap (r : Int) = (r : Int) := by rw [IntKind.wrap_i64]; omega
                    by_cases hsw : gd S2 (r + 1) < gd S2 r
                    · have hI3 := hid (hI.out.step (k := r + 1) (by omega) (by rw [hSl]; omega) hsw)
                      rw [Nat.add_sub_cancel] at hI3
                      have dsw : decide (gd S2 (r + 1) < gd S2 r) = true := decide_eq_true hsw
                      have hS0 := hid hSl
                      clear hSl hsw
                      generalize hV1 : gd S2 (r + 1) = V1 at *
                      generalize hV0 : gd S2 r = V0 at *
                      replace hV1 := hid hV1
                      replace hV0 := hid hV0
                      go_wp2_with fail
                      go_quiet (fail)
                      have hS2 := hid (hS.out.drewN nq)
                      clear hS y1 y0 f1 f0
                      generalize wr.drewN nq = wq at *
                      have y1 := hS2.out.own.cellAt hS0.out (r + 1) (by omega)
                      have y0 := hS2.out.own.cellAt hS0.out r (by omega)
                      have f1 := hS2.out.own.free hS0.out (r + 1)
                      have f0 := hS2.out.own.free hS0.out r
                      have hS3 := hid (hS2.out.swap hS0.out (k := r + 1) (by omega) (by omega))
                      rw [Nat.add_sub_cancel, hV0.out, hV1.out] at hS3
                      rw [hV1.out] at y1
                      rw [hV0.out] at y0
                      have hn01 : r ≠ r + 1 := by omega
                      have hS4 := hid hS3.out.drew
                      go_wp2_with fail
                      go_region
                      generalize ((wq.setCell ⟨g, r + 1, none⟩ (.int .i64 V0)).setCell ⟨g, r, none⟩ (.int .i64 V1)).drew = wz at *
                      clear y1 y0 f1 f0 hS3
                      go_wp2_with fail
                      go_roundw
                      case rel => exact ⟨r, by omega, by go_num, swap S2 (r + 1), hS4, hI3⟩
                      case measure => simp [intOf]
                    · have hso2 := hid (hI.out.done (.inr (by rw [Nat.add_sub_cancel]; omega)))
                      have dsw : decide (gd S2 (r + 1) < gd S2 r) = false := decide_eq_false hsw
                      generalize gd S2 (r + 1) = V1 at *
                      generalize gd S2 r = V0 at *
                      go_wp2_with fail
                      go_quiet (fail)
                      have hS2 := hid (hS.out.drewN nq)
                      generalize wr.drewN nq = wq at *
                      go_wp2_with fail
                      go_roundw
                      case rel => exact ⟨k + 1, by omega, by omega, by go_num, S2, hS2, hso2⟩
                      case measure => simp [intOf]; omega
              · have hke : MM = k := by omega
                subst hke
                have hSl := hid (hS.out.len.trans hM.out)
                have TM := hid (hS.out.tms (by rw [hSl.out]; exact hso.out))
                have hT0 := hid hS.out.own
                have hb3 := hS.out.bel
                clear hS hso
                go_wp2_with fail
                go_loopw [14, 15] (fun v i wr => ∃ k : Nat, k ≤ MM ∧ i = .int .i64 (k : Int) ∧ ∃ o, Hid (TOwn wr w1.heap.size (.slice (some ⟨g, 0, none⟩) MM cap) S) ∧ Hid (SOwn wr w1.heap.size v o) ∧ Hid (Ds (gv C p q m) (o, false) (upTo S k)) ∧ o.length ≤ k ∧ Below w.heap.size w wr) (fun _ i _ => MM - (intOf i).toNat)
                case atStart => exact ⟨0, Nat.zero_le _, rfl, [], hT0, hid (SOwn.nil _ _), hid (ds_nil _), Nat.le_refl _, hb3⟩
                case round =>
                  obtain ⟨k2, hk2, rfl, o, hT, hO, hD, holl, hb4⟩ := hrel
                  by_cases hlt4 : k2 < MM
                  · have hkS : k2 < S.length := by rw [hSl.out]; exact hlt4
                    have y0 := hT.out.cellAt hSl.out k2 hlt4
                    have kVal := valuer_any s j c C (gd S k2) wr hn.out hl (hat.out.below hb4)
                    have hxb := TM.out.bd h0.out.1 h0.out.2 hkS
                    have hvb := h0.out.1.val_bd hxb.1
                    have hwv : IntKind.i64.wrap (val C (gd S k2) + m) = val C (gd S k2) + m := by rw [IntKind.wrap_i64]; omega
                    have hgd : gv C p q m (gd S k2) = val C (gd S k2) + if p ≤ gd S k2 ∧ gd S k2 < q then m else 0 := rfl
                    by_cases hw1 : p ≤ gd S k2
                    · have dw1 : decide (p ≤ gd S k2) = true := decide_eq_true hw1
                      by_cases hw2 : gd S k2 < q
                      · have dw2 : decide (gd S k2 < q) = true := decide_eq_true hw2
                        have hgv := hid (show gv C p q m (gd S k2) = val C (gd S k2) + m by rw [hgd, if_pos ⟨hw1, hw2⟩])
                        clear hgd hw1 hw2 hxb
                        generalize val C (gd S k2) = Y at *
                        generalize hx : gd S k2 = X at *
                        replace hx := hid hx
                        by_cases hneg : (Y + m) < 0
                        · have dneg : decide ((Y + m) < 0) = true := decide_eq_true hneg
                          have hf := hid (show addA C p q m = ([], 120) by unfold addA; rw [if_pos hg.out, if_pos (TM.out.over h0.out.1 h0.out.2 hkS (by rw [hx.out, hgv.out]; intro hh; have := hh.1; have := hh.2; omega))])
                          go_wp2_with fail
                          refine kVal.mono ?_
                          rintro e wv ⟨rfl, rfl⟩
                          go_wp2
                          go_ret2
                          rw [hf.out]
                          exact ⟨_, _, rfl, SOwn.nil _ _, hb4⟩
                        · have dneg : decide ((Y + m) < 0) = false := decide_eq_false hneg
                          by_cases hbig : 1073741824 < (Y + m)
                          · have dbig : decide (1073741824 < (Y + m)) = true := decide_eq_true hbig
                            have hf := hid (show addA C p q m = ([], 120) by unfold addA; rw [if_pos hg.out, if_pos (TM.out.over h0.out.1 h0.out.2 hkS (by rw [hx.out, hgv.out]; intro hh; have := hh.1; have := hh.2; omega))])
                            go_wp2_with fail
                            refine kVal.mono ?_
                            rintro e wv ⟨rfl, rfl⟩
                            go_wp2
                            go_ret2
                            rw [hf.out]
                            exact ⟨_, _, rfl, SOwn.nil _ _, hb4⟩
                          · have dbig : decide (1073741824 < (Y + m)) = false := decide_eq_false hbig
                            rcases Nat.eq_zero_or_pos o.length with hol | hol
                            · have hD2 := hid (TM.out.step (n := m) h0.out.1 h0.out.2 hkS hD.out (by rw [hx.out, hgv.out]; exact ⟨by omega, by omega⟩))
                              rw [hx.out, hgv.out] at hD2
                              have hpl := hid (put_more (o := o) (x := X) (v := (Y + m)) (.inl hol))
                              rw [hpl.out] at hD2
                              obtain ⟨oa, oc, hoe, _⟩ := owns_form hO.out
                              rw [hol] at hoe
                              subst hoe
                              go_wp2_with fail
                              refine kVal.mono ?_
                              rintro e wv ⟨rfl, rfl⟩
                              clear kVal
                              go_wp2_with (at_builtin; refine Hid.out ?_)
                              have bl := below_lit wv (.cells #[.int .i64 X, .int .i64 (Y + m)] 40)
                              have hv2 := hO.out.below bl
                              unfold SOwn at hv2
                              rw [hol] at hv2
                              have hT2 := hT.out.below bl
                              have B5 := bnext hb4 bl
                              have hz5 : w1.heap.size ≤ (wv.alloc (.cells #[.int .i64 X, .int .i64 (Y + m)] 40)).heap.size := by
                                obtain ⟨_, _, _, _, h3, h4⟩ := hT.out.form (by rw [hSl.out]; omega)
                                rw [size_alloc]; omega
                              refine wpList_cat _ rfl (.tmp 135) (.tmp 142) 38 rfl w1.heap.size 40 i36 _ 2 16 Try.underlying38 hi36 hz0 hz1 hz2 rfl (by omega) _ _ _ rfl hv2 (some ⟨wv.heap.size, 0, none⟩) 1 _ [.int .i64 X, .int .i64 (Y + m)] rfl rfl (cat_lit _ _ _ _ rfl) (two_one _ _) (by unfold maxLen; omega) (by omega) hz5 ?_
                              intro v3 w3 hr3 hg3 hv3
                              have hlen : 0 + 1 = (o ++ [(X, (Y + m))]).length := by rw [List.length_append, hol]; rfl
                              have hO3 := hid (show SOwn w3 w1.heap.size v3 (o ++ [(X, (Y + m))]) by unfold SOwn; rw [← hlen, cc_snoc]; exact hr3)
                              have hT3 := hid (show TOwn w3 w1.heap.size (.slice (some ⟨g, 0, none⟩) MM cap) S from owns_kp hT2 (Kp.grown hg3) (fun i e1 e2 => rows_off hT2 hv2 (by decide) i e1 e2))
                              have B6 := B5.grown hg3 B5.size (fun i hi => by have := (hv2.lt i hi).1; omega)
                              have hol2 : (o ++ [(X, (Y + m))]).length ≤ k2 + 1 := by rw [← hlen]; omega
                              clear hlen hr3 hg3 hv3 hv2 bl hT2 B5
                              go_wp2_with fail
                              go_roundw
                              case rel => exact ⟨k2 + 1, by omega, by go_num, o ++ [(X, (Y + m))], hT3, hO3, hD2, hol2, B6⟩
                              case measure => simp [intOf]; omega
                            · by_cases hlast : lastF o = (Y + m)
                              · have hD2 := hid (TM.out.step (n := m) h0.out.1 h0.out.2 hkS hD.out (by rw [hx.out, hgv.out]; exact ⟨by omega, by omega⟩))
                                rw [hx.out, hgv.out] at hD2
                                obtain ⟨r, hr⟩ : ∃ r, o.length = r + 1 := ⟨o.length - 1, by omega⟩
                                obtain ⟨oa, oc, hoe, _⟩ := owns_form hO.out
                                rw [hr] at hoe
                                subst hoe
                                have osat := hO.out.sat
                                obtain ⟨og, oo, e⟩ := SAt.place osat (by omega)
                                subst e
                                have z1 := (SAt.one osat (show r < o.length by omega)).2
                                have hlf : fr o r = lastF o := by unfold lastF; rw [hr, Nat.add_sub_cancel]
                                rw [hlf] at z1
                                have hrw : IntKind.i64.wrap ((r : Int) + 1 - 1) = (r : Int) := by rw [IntKind.wrap_i64]; omega
                                have hrv : IntKind.i64.wrap (r : Int) = (r : Int) := by rw [IntKind.wrap_i64]; omega
                                have dz : ((r : Int) + 1 == 0) = false := by simp; omega
                                have hpl := hid (put_same (o := o) (x := X) (v := (Y + m)) (fun h => h.elim (fun h => by omega) (fun h => h hlast)))
                                rw [hpl.out] at hD2
                                rw [hlast] at z1
                                have hrb : r + 1 ≤ k2 := by omega
                                replace hr := hid hr
                                replace hlast := hid hlast
                                clear hlf osat
                                go_wp2_with fail
                                refine kVal.mono ?_
                                rintro e wv ⟨rfl, rfl⟩
                                clear kVal
                                go_wp2_with fail
                                go_roundw
                                case rel => exact ⟨k2 + 1, by omega, by go_num, o, hT, hO, hD2, by omega, hb4⟩
                                case measure => simp [intOf]; omega
                              · have hD2 := hid (TM.out.step (n := m) h0.out.1 h0.out.2 hkS hD.out (by rw [hx.out, hgv.out]; exact ⟨by omega, by omega⟩))
                                rw [hx.out, hgv.out] at hD2
                                obtain ⟨r, hr⟩ : ∃ r, o.length = r + 1 := ⟨o.length - 1, by omega⟩
                                obtain ⟨oa, oc, hoe, _⟩ := owns_form hO.out
                                rw [hr] at hoe
                                subst hoe
                                have osat := hO.out.sat
                                obtain ⟨og, oo, e⟩ := SAt.place osat (by omega)
                                subst e
                                have z1 := (SAt.one osat (show r < o.length by omega)).2
                                have hlf : fr o r = lastF o := by unfold lastF; rw [hr, Nat.add_sub_cancel]
                                rw [hlf] at z1
                                have hrw : IntKind.i64.wrap ((r : Int) + 1 - 1) = (r : Int) := by rw [IntKind.wrap_i64]; omega
                                have hrv : IntKind.i64.wrap (r : Int) = (r : Int) := by rw [IntKind.wrap_i64]; omega
                                have dz : ((r : Int) + 1 == 0) = false := by simp; omega
                                have hpl := hid (put_more (o := o) (x := X) (v := (Y + m)) (.inr hlast))
                                rw [hpl.out] at hD2
                                have dn : (lastF o != (Y + m)) = true := by simpa using hlast
                                have hrb : r + 1 ≤ k2 := by omega
                                replace hr := hid hr
                                replace hlast := hid hlast
                                clear hlf osat
                                generalize lastF o = LF at *
                                go_wp2_with fail
                                refine kVal.mono ?_
                                rintro e wv ⟨rfl, rfl⟩
                                clear kVal
                                go_wp2_with (at_builtin; refine Hid.out ?_)
                                have bl := below_lit wv (.cells #[.int .i64 X, .int .i64 (Y + m)] 40)
                                have hv2 := hO.out.below bl
                                unfold SOwn at hv2
                                rw [hr.out] at hv2
                                have hT2 := hT.out.below bl
                                have B5 := bnext hb4 bl
                                have hz5 : w1.heap.size ≤ (wv.alloc (.cells #[.int .i64 X, .int .i64 (Y + m)] 40)).heap.size := by
                                  obtain ⟨_, _, _, _, h3, h4⟩ := hT.out.form (by rw [hSl.out]; omega)
                                  rw [size_alloc]; omega
                                refine wpList_cat _ rfl (.tmp 135) (.tmp 142) 38 rfl w1.heap.size 40 i36 _ 2 16 Try.underlying38 hi36 hz0 hz1 hz2 rfl (by omega) _ _ _ rfl hv2 (some ⟨wv.heap.size, 0, none⟩) 1 _ [.int .i64 X, .int .i64 (Y + m)] rfl rfl (cat_lit _ _ _ _ rfl) (two_one _ _) (by unfold maxLen; omega) (by omega) hz5 ?_
                                intro v3 w3 hr3 hg3 hv3
                                have hlen : r + 1 + 1 = (o ++ [(X, (Y + m))]).length := by rw [List.length_append, hr.out]; rfl
                                have hO3 := hid (show SOwn w3 w1.heap.size v3 (o ++ [(X, (Y + m))]) by unfold SOwn; rw [← hlen, cc_snoc]; exact hr3)
                                have hT3 := hid (show TOwn w3 w1.heap.size (.slice (some ⟨g, 0, none⟩) MM cap) S from owns_kp hT2 (Kp.grown hg3) (fun i e1 e2 => rows_off hT2 hv2 (by decide) i e1 e2))
                                have B6 := B5.grown hg3 B5.size (fun i hi => by have := (hv2.lt i hi).1; omega)
                                have hol2 : (o ++ [(X, (Y + m))]).length ≤ k2 + 1 := by rw [← hlen]; omega
                                clear hlen hr3 hg3 hv3 hv2 bl hT2 B5
                                go_wp2_with fail
                                go_roundw
                                case rel => exact ⟨k2 + 1, by omega, by go_num, o ++ [(X, (Y + m))], hT3, hO3, hD2, hol2, B6⟩
                                case measure => simp [intOf]; omega
                      · have dw2 : decide (gd S k2 < q) = false := decide_eq_false hw2
                        have hgv := hid (show gv C p q m (gd S k2) = val C (gd S k2) by rw [hgd, if_neg (fun h => hw2 h.2)]; omega)
                        clear hgd hw1 hw2 hxb hwv
                        generalize val C (gd S k2) = Y at *
                        generalize hx : gd S k2 = X at *
                        replace hx := hid hx
                        by_cases hneg : Y < 0
                        · have dneg : decide (Y < 0) = true := decide_eq_true hneg
                          exfalso; omega
                        · have dneg : decide (Y < 0) = false := decide_eq_false hneg
                          by_cases hbig : 1073741824 < Y
                          · have dbig : decide (1073741824 < Y) = true := decide_eq_true hbig
                            exfalso; omega
                          · have dbig : decide (1073741824 < Y) = false := decide_eq_false hbig
                            rcases Nat.eq_zero_or_pos o.length with hol | hol
                            · have hD2 := hid (TM.out.step (n := m) h0.out.1 h0.out.2 hkS hD.out (by rw [hx.out, hgv.out]; exact ⟨by omega, by omega⟩))
                              rw [hx.out, hgv.out] at hD2
                              have hpl := hid (put_more (o := o) (x := X) (v := Y) (.inl hol))
                              rw [hpl.out] at hD2
                              obtain ⟨oa, oc, hoe, _⟩ := owns_form hO.out
                              rw [hol] at hoe
                              subst hoe
                              go_wp2_with fail
                              refine kVal.mono ?_
                              rintro e wv ⟨rfl, rfl⟩
                              clear kVal
                              go_wp2_with (at_builtin; refine Hid.out ?_)
                              have bl := below_lit wv (.cells #[.int .i64 X, .int .i64 Y] 40)
                              have hv2 := hO.out.below bl
                              unfold SOwn at hv2
                              rw [hol] at hv2
                              have hT2 := hT.out.below bl
                              have B5 := bnext hb4 bl
                              have hz5 : w1.heap.size ≤ (wv.alloc (.cells #[.int .i64 X, .int .i64 Y] 40)).heap.size := by
                                obtain ⟨_, _, _, _, h3, h4⟩ := hT.out.form (by rw [hSl.out]; omega)
                                rw [size_alloc]; omega
                              refine wpList_cat _ rfl (.tmp 135) (.tmp 142) 38 rfl w1.heap.size 40 i36 _ 2 16 Try.underlying38 hi36 hz0 hz1 hz2 rfl (by omega) _ _ _ rfl hv2 (some ⟨wv.heap.size, 0, none⟩) 1 _ [.int .i64 X, .int .i64 Y] rfl rfl (cat_lit _ _ _ _ rfl) (two_one _ _) (by unfold maxLen; omega) (by omega) hz5 ?_
                              intro v3 w3 hr3 hg3 hv3
                              have hlen : 0 + 1 = (o ++ [(X, Y)]).length := by rw [List.length_append, hol]; rfl
                              have hO3 := hid (show SOwn w3 w1.heap.size v3 (o ++ [(X, Y)]) by unfold SOwn; rw [← hlen, cc_snoc]; exact hr3)
                              have hT3 := hid (show TOwn w3 w1.heap.size (.slice (some ⟨g, 0, none⟩) MM cap) S from owns_kp hT2 (Kp.grown hg3) (fun i e1 e2 => rows_off hT2 hv2 (by decide) i e1 e2))
                              have B6 := B5.grown hg3 B5.size (fun i hi => by have := (hv2.lt i hi).1; omega)
                              have hol2 : (o ++ [(X, Y)]).length ≤ k2 + 1 := by rw [← hlen]; omega
                              clear hlen hr3 hg3 hv3 hv2 bl hT2 B5
                              go_wp2_with fail
                              go_roundw
                              case rel => exact ⟨k2 + 1, by omega, by go_num, o ++ [(X, Y)], hT3, hO3, hD2, hol2, B6⟩
                              case measure => simp [intOf]; omega
                            · by_cases hlast : lastF o = Y
                              · have hD2 := hid (TM.out.step (n := m) h0.out.1 h0.out.2 hkS hD.out (by rw [hx.out, hgv.out]; exact ⟨by omega, by omega⟩))
                                rw [hx.out, hgv.out] at hD2
                                obtain ⟨r, hr⟩ : ∃ r, o.length = r + 1 := ⟨o.length - 1, by omega⟩
                                obtain ⟨oa, oc, hoe, _⟩ := owns_form hO.out
                                rw [hr] at hoe
                                subst hoe
                                have osat := hO.out.sat
                                obtain ⟨og, oo, e⟩ := SAt.place osat (by omega)
                                subst e
                                have z1 := (SAt.one osat (show r < o.length by omega)).2
                                have hlf : fr o r = lastF o := by unfold lastF; rw [hr, Nat.add_sub_cancel]
                                rw [hlf] at z1
                                have hrw : IntKind.i64.wrap ((r : Int) + 1 - 1) = (r : Int) := by rw [IntKind.wrap_i64]; omega
                                have hrv : IntKind.i64.wrap (r : Int) = (r : Int) := by rw [IntKind.wrap_i64]; omega
                                have dz : ((r : Int) + 1 == 0) = false := by simp; omega
                                have hpl := hid (put_same (o := o) (x := X) (v := Y) (fun h => h.elim (fun h => by omega) (fun h => h hlast)))
                                rw [hpl.out] at hD2
                                rw [hlast] at z1
                                have hrb : r + 1 ≤ k2 := by omega
                                replace hr := hid hr
                                replace hlast := hid hlast
                                clear hlf osat
                                go_wp2_with fail
                                refine kVal.mono ?_
                                rintro e wv ⟨rfl, rfl⟩
                                clear kVal
                                go_wp2_with fail
                                go_roundw
                                case rel => exact ⟨k2 + 1, by omega, by go_num, o, hT, hO, hD2, by omega, hb4⟩
                                case measure => simp [intOf]; omega
                              · have hD2 := hid (TM.out.step (n := m) h0.out.1 h0.out.2 hkS hD.out (by rw [hx.out, hgv.out]; exact ⟨by omega, by omega⟩))
                                rw [hx.out, hgv.out] at hD2
                                obtain ⟨r, hr⟩ : ∃ r, o.length = r + 1 := ⟨o.length - 1, by omega⟩
                                obtain ⟨oa, oc, hoe, _⟩ := owns_form hO.out
                                rw [hr] at hoe
                                subst hoe
                                have osat := hO.out.sat
                                obtain ⟨og, oo, e⟩ := SAt.place osat (by omega)
                                subst e
                                have z1 := (SAt.one osat (show r < o.length by omega)).2
                                have hlf : fr o r = lastF o := by unfold lastF; rw [hr, Nat.add_sub_cancel]
                                rw [hlf] at z1
                                have hrw : IntKind.i64.wrap ((r : Int) + 1 - 1) = (r : Int) := by rw [IntKind.wrap_i64]; omega
                                have hrv : IntKind.i64.wrap (r : Int) = (r : Int) := by rw [IntKind.wrap_i64]; omega
                                have dz : ((r : Int) + 1 == 0) = false := by simp; omega
                                have hpl := hid (put_more (o := o) (x := X) (v := Y) (.inr hlast))
                                rw [hpl.out] at hD2
                                have dn : (lastF o != Y) = true := by simpa using hlast
                                have hrb : r + 1 ≤ k2 := by omega
                                replace hr := hid hr
                                replace hlast := hid hlast
                                clear hlf osat
                                generalize lastF o = LF at *
                                go_wp2_with fail
                                refine kVal.mono ?_
                                rintro e wv ⟨rfl, rfl⟩
                                clear kVal
                                go_wp2_with (at_builtin; refine Hid.out ?_)
                                have bl := below_lit wv (.cells #[.int .i64 X, .int .i64 Y] 40)
                                have hv2 := hO.out.below bl
                                unfold SOwn at hv2
                                rw [hr.out] at hv2
                                have hT2 := hT.out.below bl
                                have B5 := bnext hb4 bl
                                have hz5 : w1.heap.size ≤ (wv.alloc (.cells #[.int .i64 X, .int .i64 Y] 40)).heap.size := by
                                  obtain ⟨_, _, _, _, h3, h4⟩ := hT.out.form (by rw [hSl.out]; omega)
                                  rw [size_alloc]; omega
                                refine wpList_cat _ rfl (.tmp 135) (.tmp 142) 38 rfl w1.heap.size 40 i36 _ 2 16 Try.underlying38 hi36 hz0 hz1 hz2 rfl (by omega) _ _ _ rfl hv2 (some ⟨wv.heap.size, 0, none⟩) 1 _ [.int .i64 X, .int .i64 Y] rfl rfl (cat_lit _ _ _ _ rfl) (two_one _ _) (by unfold maxLen; omega) (by omega) hz5 ?_
                                intro v3 w3 hr3 hg3 hv3
                                have hlen : r + 1 + 1 = (o ++ [(X, Y)]).length := by rw [List.length_append, hr.out]; rfl
                                have hO3 := hid (show SOwn w3 w1.heap.size v3 (o ++ [(X, Y)]) by unfold SOwn; rw [← hlen, cc_snoc]; exact hr3)
                                have hT3 := hid (show TOwn w3 w1.heap.size (.slice (some ⟨g, 0, none⟩) MM cap) S from owns_kp hT2 (Kp.grown hg3) (fun i e1 e2 => rows_off hT2 hv2 (by decide) i e1 e2))
                                have B6 := B5.grown hg3 B5.size (fun i hi => by have := (hv2.lt i hi).1; omega)
                                have hol2 : (o ++ [(X, Y)]).length ≤ k2 + 1 := by rw [← hlen]; omega
                                clear hlen hr3 hg3 hv3 hv2 bl hT2 B5
                                go_wp2_with fail
                                go_roundw
                                case rel => exact ⟨k2 + 1, by omega, by go_num, o ++ [(X, Y)], hT3, hO3, hD2, hol2, B6⟩
                                case measure => simp [intOf]; omega
                    · have dw1 : decide (p ≤ gd S k2) = false := decide_eq_false hw1
                      have hgv := hid (show gv C p q m (gd S k2) = val C (gd S k2) by rw [hgd, if_neg (fun h => hw1 h.1)]; omega)
                      clear hgd hw1 hxb hwv
                      generalize val C (gd S k2) = Y at *
                      generalize hx : gd S k2 = X at *
                      replace hx := hid hx
                      by_cases hneg : Y < 0
                      · have dneg : decide (Y < 0) = true := decide_eq_true hneg
                        exfalso; omega
                      · have dneg : decide (Y < 0) = false := decide_eq_false hneg
                        by_cases hbig : 1073741824 < Y
                        · have dbig : decide (1073741824 < Y) = true := decide_eq_true hbig
                          exfalso; omega
                        · have dbig : decide (1073741824 < Y) = false := decide_eq_false hbig
                          rcases Nat.eq_zero_or_pos o.length with hol | hol
                          · have hD2 := hid (TM.out.step (n := m) h0.out.1 h0.out.2 hkS hD.out (by rw [hx.out, hgv.out]; exact ⟨by omega, by omega⟩))
                            rw [hx.out, hgv.out] at hD2
                            have hpl := hid (put_more (o := o) (x := X) (v := Y) (.inl hol))
                            rw [hpl.out] at hD2
                            obtain ⟨oa, oc, hoe, _⟩ := owns_form hO.out
                            rw [hol] at hoe
                            subst hoe
                            go_wp2_with fail
                            refine kVal.mono ?_
                            rintro e wv ⟨rfl, rfl⟩
                            clear kVal
                            go_wp2_with (at_builtin; refine Hid.out ?_)
                            have bl := below_lit wv (.cells #[.int .i64 X, .int .i64 Y] 40)
                            have hv2 := hO.out.below bl
                            unfold SOwn at hv2
                            rw [hol] at hv2
                            have hT2 := hT.out.below bl
                            have B5 := bnext hb4 bl
                            have hz5 : w1.heap.size ≤ (wv.alloc (.cells #[.int .i64 X, .int .i64 Y] 40)).heap.size := by
                              obtain ⟨_, _, _, _, h3, h4⟩ := hT.out.form (by rw [hSl.out]; omega)
                              rw [size_alloc]; omega
                            refine wpList_cat _ rfl (.tmp 135) (.tmp 142) 38 rfl w1.heap.size 40 i36 _ 2 16 Try.underlying38 hi36 hz0 hz1 hz2 rfl (by omega) _ _ _ rfl hv2 (some ⟨wv.heap.size, 0, none⟩) 1 _ [.int .i64 X, .int .i64 Y] rfl rfl (cat_lit _ _ _ _ rfl) (two_one _ _) (by unfold maxLen; omega) (by omega) hz5 ?_
                            intro v3 w3 hr3 hg3 hv3
                            have hlen : 0 + 1 = (o ++ [(X, Y)]).length := by rw [List.length_append, hol]; rfl
                            have hO3 := hid (show SOwn w3 w1.heap.size v3 (o ++ [(X, Y)]) by unfold SOwn; rw [← hlen, cc_snoc]; exact hr3)
                            have hT3 := hid (show TOwn w3 w1.heap.size (.slice (some ⟨g, 0, none⟩) MM cap) S from owns_kp hT2 (Kp.grown hg3) (fun i e1 e2 => rows_off hT2 hv2 (by decide) i e1 e2))
                            have B6 := B5.grown hg3 B5.size (fun i hi => by have := (hv2.lt i hi).1; omega)
                            have hol2 : (o ++ [(X, Y)]).length ≤ k2 + 1 := by rw [← hlen]; omega
                            clear hlen hr3 hg3 hv3 hv2 bl hT2 B5
                            go_wp2_with fail
                            go_roundw
                            case rel => exact ⟨k2 + 1, by omega, by go_num, o ++ [(X, Y)], hT3, hO3, hD2, hol2, B6⟩
                            case measure => simp [intOf]; omega
                          · by_cases hlast : lastF o = Y
                            · have hD2 := hid (TM.out.step (n := m) h0.out.1 h0.out.2 hkS hD.out (by rw [hx.out, hgv.out]; exact ⟨by omega, by omega⟩))
                              rw [hx.out, hgv.out] at hD2
                              obtain ⟨r, hr⟩ : ∃ r, o.length = r + 1 := ⟨o.length - 1, by omega⟩
                              obtain ⟨oa, oc, hoe, _⟩ := owns_form hO.out
                              rw [hr] at hoe
                              subst hoe
                              have osat := hO.out.sat
                              obtain ⟨og, oo, e⟩ := SAt.place osat (by omega)
                              subst e
                              have z1 := (SAt.one osat (show r < o.length by omega)).2
                              have hlf : fr o r = lastF o := by unfold lastF; rw [hr, Nat.add_sub_cancel]
                              rw [hlf] at z1
                              have hrw : IntKind.i64.wrap ((r : Int) + 1 - 1) = (r : Int) := by rw [IntKind.wrap_i64]; omega
                              have hrv : IntKind.i64.wrap (r : Int) = (r : Int) := by rw [IntKind.wrap_i64]; omega
                              have dz : ((r : Int) + 1 == 0) = false := by simp; omega
                              have hpl := hid (put_same (o := o) (x := X) (v := Y) (fun h => h.elim (fun h => by omega) (fun h => h hlast)))
                              rw [hpl.out] at hD2
                              rw [hlast] at z1
                              have hrb : r + 1 ≤ k2 := by omega
                              replace hr := hid hr
                              replace hlast := hid hlast
                              clear hlf osat
                              go_wp2_with fail
                              refine kVal.mono ?_
                              rintro e wv ⟨rfl, rfl⟩
                              clear kVal
                              go_wp2_with fail
                              go_roundw
                              case rel => exact ⟨k2 + 1, by omega, by go_num, o, hT, hO, hD2, by omega, hb4⟩
                              case measure => simp [intOf]; omega
                            · have hD2 := hid (TM.out.step (n := m) h0.out.1 h0.out.2 hkS hD.out (by rw [hx.out, hgv.out]; exact ⟨by omega, by omega⟩))
                              rw [hx.out, hgv.out] at hD2
                              obtain ⟨r, hr⟩ : ∃ r, o.length = r + 1 := ⟨o.length - 1, by omega⟩
                              obtain ⟨oa, oc, hoe, _⟩ := owns_form hO.out
                              rw [hr] at hoe
                              subst hoe
                              have osat := hO.out.sat
                              obtain ⟨og, oo, e⟩ := SAt.place osat (by omega)
                              subst e
                              have z1 := (SAt.one osat (show r < o.length by omega)).2
                              have hlf : fr o r = lastF o := by unfold lastF; rw [hr, Nat.add_sub_cancel]
                              rw [hlf] at z1
                              have hrw : IntKind.i64.wrap ((r : Int) + 1 - 1) = (r : Int) := by rw [IntKind.wrap_i64]; omega
                              have hrv : IntKind.i64.wrap (r : Int) = (r : Int) := by rw [IntKind.wrap_i64]; omega
                              have dz : ((r : Int) + 1 == 0) = false := by simp; omega
                              have hpl := hid (put_more (o := o) (x := X) (v := Y) (.inr hlast))
                              rw [hpl.out] at hD2
                              have dn : (lastF o != Y) = true := by simpa using hlast
                              have hrb : r + 1 ≤ k2 := by omega
                              replace hr := hid hr
                              replace hlast := hid hlast
                              clear hlf osat
                              generalize lastF o = LF at *
                              go_wp2_with fail
                              refine kVal.mono ?_
                              rintro e wv ⟨rfl, rfl⟩
                              clear kVal
                              go_wp2_with (at_builtin; refine Hid.out ?_)
                              have bl := below_lit wv (.cells #[.int .i64 X, .int .i64 Y] 40)
                              have hv2 := hO.out.below bl
                              unfold SOwn at hv2
                              rw [hr.out] at hv2
                              have hT2 := hT.out.below bl
                              have B5 := bnext hb4 bl
                              have hz5 : w1.heap.size ≤ (wv.alloc (.cells #[.int .i64 X, .int .i64 Y] 40)).heap.size := by
                                obtain ⟨_, _, _, _, h3, h4⟩ := hT.out.form (by rw [hSl.out]; omega)
                                rw [size_alloc]; omega
                              refine wpList_cat _ rfl (.tmp 135) (.tmp 142) 38 rfl w1.heap.size 40 i36 _ 2 16 Try.underlying38 hi36 hz0 hz1 hz2 rfl (by omega) _ _ _ rfl hv2 (some ⟨wv.heap.size, 0, none⟩) 1 _ [.int .i64 X, .int .i64 Y] rfl rfl (cat_lit _ _ _ _ rfl) (two_one _ _) (by unfold maxLen; omega) (by omega) hz5 ?_
                              intro v3 w3 hr3 hg3 hv3
                              have hlen : r + 1 + 1 = (o ++ [(X, Y)]).length := by rw [List.length_append, hr.out]; rfl
                              have hO3 := hid (show SOwn w3 w1.heap.size v3 (o ++ [(X, Y)]) by unfold SOwn; rw [← hlen, cc_snoc]; exact hr3)
                              have hT3 := hid (show TOwn w3 w1.heap.size (.slice (some ⟨g, 0, none⟩) MM cap) S from owns_kp hT2 (Kp.grown hg3) (fun i e1 e2 => rows_off hT2 hv2 (by decide) i e1 e2))
                              have B6 := B5.grown hg3 B5.size (fun i hi => by have := (hv2.lt i hi).1; omega)
                              have hol2 : (o ++ [(X, Y)]).length ≤ k2 + 1 := by rw [← hlen]; omega
                              clear hlen hr3 hg3 hv3 hv2 bl hT2 B5
                              go_wp2_with fail
                              go_roundw
                              case rel => exact ⟨k2 + 1, by omega, by go_num, o ++ [(X, Y)], hT3, hO3, hD2, hol2, B6⟩
                              case measure => simp [intOf]; omega
                  · have hke : MM = k2 := by omega
                    subst hke
                    have hD3 := hD.out
                    rw [← hSl.out] at hD3
                    have hP := hid (TM.out.last h0.out.1 h0.out.2 hD3)
                    clear hD3
                    obtain ⟨oa, oc, hoe, _⟩ := owns_form hO.out
                    subst hoe
                    have oown := hid (hO.out.low B1.size)
                    by_cases hful : 4096 < o.length
                    · have dful : decide (4096 < (o.length : Int)) = true := decide_eq_true (by omega)
                      have hf := hid (show addA C p q m = ([], 5) by unfold addA; rw [if_pos hg.out, hP.out, if_neg (by simp), if_pos hful])
                      generalize o.length = OL at *
                      go_wp2
                      go_ret2
                      rw [hf.out]
                      exact ⟨_, _, rfl, SOwn.nil _ _, hb4⟩
                    · have dful : decide (4096 < (o.length : Int)) = false := decide_eq_false (by omega)
                      have hf := hid (show addA C p q m = (o, 0) by unfold addA; rw [if_pos hg.out, hP.out, if_neg (by simp), if_neg hful])
                      go_wp2
                      go_ret2
                      rw [hf.out]
                      exact ⟨_, _, rfl, oown.out, hb4⟩
  · have e0 : (rightB C && winB p q) = false := by
      cases h1 : rightB C
      · rfl
      · rw [Bool.true_and]
        exact winB_no fun h2 => h0 ⟨rightB_iff.1 h1, h2⟩
    rw [e0] at kW
    have hf := hid (show addA C p q m = ([], 2) from if_neg fun h => h0 ⟨h.1, h.2.1⟩)
    replace h0 := hid h0
    replace e0 := hid e0
    go_enter Try.func67, Try.ntmps67
    go_wp2_with fail
    refine kW.mono ?_
    rintro e w1 ⟨rfl, B1⟩
    go_wp2
    go_ret2
    rw [hf.out]
    exact ⟨_, _, rfl, SOwn.nil _ _, B1⟩

end Go.Proofs.Yticlpjpbjgfgmaa
