/- The document's profiles: fine, Take, Give, Free. -/
import Derived.Test.YticlpjpbjgfgmaaRp
import Derived.Test.YticlpjpbjgfgmaaBack
namespace Go.Proofs.Yticlpjpbjgfgmaa
open Go.RowKit
open Nd (lst lstk cnt ofN L2 ofP)

/-- The last of a set's nodes is below n, just if all are. -/
theorem last_win {on n : Nat} (hon : on < 4294967296) (hn : n ≤ 32) : wiB on n = true ↔ (lst on).length = 0 ∨ (lst on).getD ((lst on).length - 1) 0 < n := by
  rw [wiB_iff hon hn]
  constructor
  · intro h
    rcases Nat.eq_zero_or_pos (lst on).length with h0 | h0
    · exact .inl h0
    · refine .inr (h _ ?_)
      have hm : (lst on).getD ((lst on).length - 1) 0 ∈ lst on := by
        rw [List.getD_eq_getElem?_getD, List.getElem?_eq_getElem (by omega)]; exact List.getElem_mem _
      exact (Nd.mem_lst.1 hm).2
  · intro h i hi
    have hm : i ∈ lst on := Nd.mem_lst.2 ⟨Nd.bit_lt hon hi, hi⟩
    rcases h with h | h
    · rw [List.eq_nil_of_length_eq_zero h] at hm; cases hm
    · obtain ⟨k, hk, rfl⟩ := List.getElem_of_mem hm
      have hlast : (lst on).getD ((lst on).length - 1) 0 = (lst on)[(lst on).length - 1] := by
        rw [List.getD_eq_getElem?_getD, List.getElem?_eq_getElem (by omega)]; rfl
      rw [hlast] at h
      rcases Nat.lt_or_ge k ((lst on).length - 1) with h2 | h2
      · have hp : (lst on).Pairwise (· < ·) := Nd.rising on 32
        have := List.pairwise_iff_getElem.1 hp k ((lst on).length - 1) hk (by omega) h2
        show (lst on)[k] < n
        have e : (lst on)[k] < (lst on)[(lst on).length - 1] := this
        omega
      · have e : k = (lst on).length - 1 := by omega
        subst e; exact h

theorem l2_get {l : List Nat} {k : Nat} (h : k < l.length) : (L2 l)[k]'(by simp [L2]; exact h) = (l.getD k 0 : Int) := by
  simp [L2, List.getD, h]

set_option maxRecDepth 100000 in
set_option maxHeartbeats 1000000 in
theorem rfine_any (a : Option Addr) (n c0 : Nat) (L : List Nd1) (on : Nat) (c p q : Int) (w : World) (hn : L.length = n) (hl : n ≤ 4611686018427387904) (hs : ∀ x ∈ L, x.C.length ≤ 4611686018427387904) (hon : on < 4294967296) (hat : PAt w a L) :
    Calls Try.prog 39 #[.slice a n c0, .int .u32 (on : Int), .int .i64 c, .int .i64 p, .int .i64 q] w fun e w' => e = .returned (.bool (mayB (cutsOf L) on c p q)) ∧ Below w.heap.size w w' := by
  have kL := Nd.listr_any on hon w
  have kR := fun w' (h : Below w.heap.size w w') => rright_any a n c0 L w' hn hl hs (hat.below h)
  have hcl := cutsOf_len L
  rw [hn] at hcl
  clear hs hat
  replace hn := hid hn
  by_cases h1 : RightPr (cutsOf L)
  · rw [rightPB_iff.2 h1] at kR
    have hn32 : n ≤ 32 := by have := h1.2.1; rw [hcl] at this; exact this
    have hB : mayB (cutsOf L) on c p q = (wiB on n && (decide (0 ≤ c) && (decide (c ≤ 1073741824) && (decide (0 ≤ p) && (decide (p < q) && decide (q ≤ 2199023255552)))))) := by
      rw [Bool.eq_iff_iff, mayB_iff]
      simp only [Bool.and_eq_true, decide_eq_true_eq]
      unfold mayP
      rw [hcl]
      constructor
      · rintro ⟨_, k2, k3, k4⟩; exact ⟨k2, k3.1, k3.2, k4.1, k4.2.1, k4.2.2⟩
      · rintro ⟨k2, k3, k4, k5, k6, k7⟩; exact ⟨h1, k2, ⟨k3, k4⟩, k5, k6, k7⟩
    have hwin := last_win hon hn32
    have hcnt := Nd.cnt_le on
    replace hB := hid hB
    replace hcl := hid hcl
    replace h1 := hid h1
    generalize mayB (cutsOf L) on c p q = R at *
    go_enter Try.func39, Try.ntmps39
    go_wp2_with fail
    refine kL.mono ?_
    rintro e w1 ⟨v, rfl, hv, hb1⟩
    obtain ⟨av, cv, ev, _⟩ := owns_form hv
    have hlen : (L2 (lst on)).length = cnt on := by simp [L2, cnt]
    rw [hlen] at ev
    subst ev
    have hcat := owns_cat hv
    rcases Nat.eq_zero_or_pos (cnt on) with hz | hz
    · have hw : wiB on n = true := hwin.2 (.inl hz)
      rw [hw] at hB
      rw [hz]
      clear hwin hv hcat hlen
      replace hz := hid hz
      by_cases k1 : 0 ≤ c
      · have dk1 : decide (0 ≤ c) = true := decide_eq_true k1
        rw [dk1] at hB
        by_cases k2 : c ≤ 1073741824
        · have dk2 : decide (c ≤ 1073741824) = true := decide_eq_true k2
          rw [dk2] at hB
          by_cases k3 : 0 ≤ p
          · have dk3 : decide (0 ≤ p) = true := decide_eq_true k3
            rw [dk3] at hB
            by_cases k4 : p < q
            · have dk4 : decide (p < q) = true := decide_eq_true k4
              rw [dk4] at hB
              by_cases k5 : q ≤ 2199023255552
              · have dk5 : decide (q ≤ 2199023255552) = true := decide_eq_true k5
                rw [dk5] at hB
                have hf := hid (show R = true by rw [hB.out]; rfl)
                clear hB
                go_wp2_with fail
                refine (kR _ hb1).mono ?_
                rintro e w2 ⟨rfl, hb2⟩
                have B2 := bnext hb1 hb2
                go_wp2
                go_ret
                rw [hf.out]; exact ⟨rfl, B2⟩
              · have dk5 : decide (q ≤ 2199023255552) = false := decide_eq_false k5
                rw [dk5] at hB
                have hf := hid (show R = false by rw [hB.out]; rfl)
                clear hB
                go_wp2_with fail
                refine (kR _ hb1).mono ?_
                rintro e w2 ⟨rfl, hb2⟩
                have B2 := bnext hb1 hb2
                go_wp2
                go_ret
                rw [hf.out]; exact ⟨rfl, B2⟩
            · have dk4 : decide (p < q) = false := decide_eq_false k4
              rw [dk4] at hB
              have hf := hid (show R = false by rw [hB.out]; rfl)
              clear hB
              go_wp2_with fail
              refine (kR _ hb1).mono ?_
              rintro e w2 ⟨rfl, hb2⟩
              have B2 := bnext hb1 hb2
              go_wp2
              go_ret
              rw [hf.out]; exact ⟨rfl, B2⟩
          · have dk3 : decide (0 ≤ p) = false := decide_eq_false k3
            rw [dk3] at hB
            have hf := hid (show R = false by rw [hB.out]; rfl)
            clear hB
            go_wp2_with fail
            refine (kR _ hb1).mono ?_
            rintro e w2 ⟨rfl, hb2⟩
            have B2 := bnext hb1 hb2
            go_wp2
            go_ret
            rw [hf.out]; exact ⟨rfl, B2⟩
        · have dk2 : decide (c ≤ 1073741824) = false := decide_eq_false k2
          rw [dk2] at hB
          have hf := hid (show R = false by rw [hB.out]; rfl)
          clear hB
          go_wp2_with fail
          refine (kR _ hb1).mono ?_
          rintro e w2 ⟨rfl, hb2⟩
          have B2 := bnext hb1 hb2
          go_wp2
          go_ret
          rw [hf.out]; exact ⟨rfl, B2⟩
      · have dk1 : decide (0 ≤ c) = false := decide_eq_false k1
        rw [dk1] at hB
        have hf := hid (show R = false by rw [hB.out]; rfl)
        clear hB
        go_wp2_with fail
        refine (kR _ hb1).mono ?_
        rintro e w2 ⟨rfl, hb2⟩
        have B2 := bnext hb1 hb2
        go_wp2
        go_ret
        rw [hf.out]; exact ⟨rfl, B2⟩
    · obtain ⟨r, hr⟩ : ∃ r, cnt on = r + 1 := ⟨cnt on - 1, by omega⟩
      obtain ⟨bv, ov, e⟩ := Nd.iat_place hcat (by intro e; rw [e] at hlen; simp at hlen; omega)
      subst e
      have x0 := Nd.iat_cell hcat r (by omega)
      rw [l2_get (l := lst on) (k := r) (by unfold cnt at hr; omega)] at x0
      have hlr : (lst on).getD ((lst on).length - 1) 0 = (lst on).getD r 0 := by
        have : (lst on).length = r + 1 := hr
        rw [this]; rfl
      rw [hlr] at hwin
      have hz2 : ¬ (lst on).length = 0 := by have : (lst on).length = r + 1 := hr; omega
      rw [hr]
      have hrw : IntKind.i64.wrap ((r : Int) + 1 - 1) = (r : Int) := by rw [IntKind.wrap_i64]; omega
      have hrv : IntKind.i64.wrap (r : Int) = (r : Int) := by rw [IntKind.wrap_i64]; omega
      have dz : ((r : Int) + 1 == 0) = false := by simp; omega
      have hr32 : r + 1 ≤ 32 := by omega
      generalize (lst on).getD r 0 = X at *
      clear hv hcat hlen hlr hz
      replace hr := hid hr
      by_cases hX : X < n
      · have hw : wiB on n = true := hwin.2 (.inr hX)
        rw [hw] at hB
        have dX : decide ((X : Int) < (n : Int)) = true := decide_eq_true (by omega)
        clear hwin hz2
        by_cases k1 : 0 ≤ c
        · have dk1 : decide (0 ≤ c) = true := decide_eq_true k1
          rw [dk1] at hB
          by_cases k2 : c ≤ 1073741824
          · have dk2 : decide (c ≤ 1073741824) = true := decide_eq_true k2
            rw [dk2] at hB
            by_cases k3 : 0 ≤ p
            · have dk3 : decide (0 ≤ p) = true := decide_eq_true k3
              rw [dk3] at hB
              by_cases k4 : p < q
              · have dk4 : decide (p < q) = true := decide_eq_true k4
                rw [dk4] at hB
                by_cases k5 : q ≤ 2199023255552
                · have dk5 : decide (q ≤ 2199023255552) = true := decide_eq_true k5
                  rw [dk5] at hB
                  have hf := hid (show R = true by rw [hB.out]; rfl)
                  clear hB
                  go_wp2_with fail
                  refine (kR _ hb1).mono ?_
                  rintro e w2 ⟨rfl, hb2⟩
                  have B2 := bnext hb1 hb2
                  have x02 := stay hb2 x0
                  go_wp2
                  go_ret
                  rw [hf.out]; exact ⟨rfl, B2⟩
                · have dk5 : decide (q ≤ 2199023255552) = false := decide_eq_false k5
                  rw [dk5] at hB
                  have hf := hid (show R = false by rw [hB.out]; rfl)
                  clear hB
                  go_wp2_with fail
                  refine (kR _ hb1).mono ?_
                  rintro e w2 ⟨rfl, hb2⟩
                  have B2 := bnext hb1 hb2
                  have x02 := stay hb2 x0
                  go_wp2
                  go_ret
                  rw [hf.out]; exact ⟨rfl, B2⟩
              · have dk4 : decide (p < q) = false := decide_eq_false k4
                rw [dk4] at hB
                have hf := hid (show R = false by rw [hB.out]; rfl)
                clear hB
                go_wp2_with fail
                refine (kR _ hb1).mono ?_
                rintro e w2 ⟨rfl, hb2⟩
                have B2 := bnext hb1 hb2
                have x02 := stay hb2 x0
                go_wp2
                go_ret
                rw [hf.out]; exact ⟨rfl, B2⟩
            · have dk3 : decide (0 ≤ p) = false := decide_eq_false k3
              rw [dk3] at hB
              have hf := hid (show R = false by rw [hB.out]; rfl)
              clear hB
              go_wp2_with fail
              refine (kR _ hb1).mono ?_
              rintro e w2 ⟨rfl, hb2⟩
              have B2 := bnext hb1 hb2
              have x02 := stay hb2 x0
              go_wp2
              go_ret
              rw [hf.out]; exact ⟨rfl, B2⟩
          · have dk2 : decide (c ≤ 1073741824) = false := decide_eq_false k2
            rw [dk2] at hB
            have hf := hid (show R = false by rw [hB.out]; rfl)
            clear hB
            go_wp2_with fail
            refine (kR _ hb1).mono ?_
            rintro e w2 ⟨rfl, hb2⟩
            have B2 := bnext hb1 hb2
            have x02 := stay hb2 x0
            go_wp2
            go_ret
            rw [hf.out]; exact ⟨rfl, B2⟩
        · have dk1 : decide (0 ≤ c) = false := decide_eq_false k1
          rw [dk1] at hB
          have hf := hid (show R = false by rw [hB.out]; rfl)
          clear hB
          go_wp2_with fail
          refine (kR _ hb1).mono ?_
          rintro e w2 ⟨rfl, hb2⟩
          have B2 := bnext hb1 hb2
          have x02 := stay hb2 x0
          go_wp2
          go_ret
          rw [hf.out]; exact ⟨rfl, B2⟩
      · have hw : wiB on n = false := by
          cases hc : wiB on n
          · rfl
          · exact absurd ((hwin.1 hc).resolve_left hz2) hX
        rw [hw] at hB
        have dX : decide ((X : Int) < (n : Int)) = false := decide_eq_false (by omega)
        clear hwin hz2
        have hf := hid (show R = false by rw [hB.out]; rfl)
        clear hB
        go_wp2_with fail
        refine (kR _ hb1).mono ?_
        rintro e w2 ⟨rfl, hb2⟩
        have B2 := bnext hb1 hb2
        have x02 := stay hb2 x0
        go_wp2
        go_ret
        rw [hf.out]; exact ⟨rfl, B2⟩
  · have hB := hid (mayB_no (on := on) (c := c) (p := p) (q := q) fun h => h1 h.1)
    rw [rightPB_no h1] at kR
    replace hcl := hid hcl
    replace h1 := hid h1
    go_enter Try.func39, Try.ntmps39
    go_wp2_with fail
    refine kL.mono ?_
    rintro e w1 ⟨v, rfl, hv, hb1⟩
    clear hv
    go_wp2_with fail
    refine (kR _ hb1).mono ?_
    rintro e w2 ⟨rfl, hb2⟩
    have B2 := bnext hb1 hb2
    go_wp2
    go_ret
    rw [hB.out]; exact ⟨rfl, B2⟩

set_option maxHeartbeats 400000 in
theorem rtake_any (a : Option Addr) (n c0 : Nat) (L : List Nd1) (on : Nat) (c p q : Int) (w : World) (hn : L.length = n) (hl : n ≤ 4611686018427387904) (hs : ∀ x ∈ L, x.C.length ≤ 4611686018427387904) (hon : on < 4294967296) (hat : PAt w a L) :
    Calls Try.prog 15 #[.slice a n c0, .int .u32 (on : Int), .int .i64 c, .int .i64 p, .int .i64 q] w fun e w' => PTold (takeA (cutsOf L) on c p q) w e w' := by
  have kM := rfine_any a n c0 L on c p q w hn hl hs hon hat
  by_cases h : mayP (cutsOf L) on c p q
  · have hf := hid (show takeA (cutsOf L) on c p q = adA (cutsOf L) on (-c) p q from if_pos h)
    rw [mayB_iff.2 h] at kM
    have hn32 : n ≤ 32 := by have := h.1.2.1; rw [cutsOf_len, hn] at this; exact this
    have kA := fun w' (hb : Below w.heap.size w w') => radd_any a n c0 L on (-c) p q w' hn hn32 (short_of h.1) hon (hat.below hb)
    have hw : IntKind.i64.wrap (-c) = -c := by rw [IntKind.wrap_i64]; have := h.2.2.1; omega
    replace h := hid h
    replace hn := hid hn
    clear hs hat
    go_enter Try.func15, Try.ntmps15
    go_wp2_with fail
    refine kM.mono ?_
    rintro e w1 ⟨rfl, hb1⟩
    go_wp2_with fail
    refine (kA _ hb1).mono ?_
    rintro e w2 ⟨ad, k, M, rfl, hM, hP, hb2⟩
    go_wp2
    go_ret2
    rw [hf.out]
    exact ⟨ad, k, M, rfl, hM, hP.low hb1.size, bnext hb1 hb2⟩
  · have hf := hid (show takeA (cutsOf L) on c p q = ([], 2) from if_neg h)
    rw [mayB_no h] at kM
    replace h := hid h
    replace hn := hid hn
    clear hs hat
    go_enter Try.func15, Try.ntmps15
    go_wp2_with fail
    refine kM.mono ?_
    rintro e w1 ⟨rfl, hb1⟩
    go_wp2
    go_ret2
    rw [hf.out]
    exact ptold_nil _ _ _ hb1

set_option maxHeartbeats 400000 in
theorem rgive_any (a : Option Addr) (n c0 : Nat) (L : List Nd1) (on : Nat) (c p q : Int) (w : World) (hn : L.length = n) (hl : n ≤ 4611686018427387904) (hs : ∀ x ∈ L, x.C.length ≤ 4611686018427387904) (hon : on < 4294967296) (hat : PAt w a L) :
    Calls Try.prog 17 #[.slice a n c0, .int .u32 (on : Int), .int .i64 c, .int .i64 p, .int .i64 q] w fun e w' => PTold (giveA (cutsOf L) on c p q) w e w' := by
  have kM := rfine_any a n c0 L on c p q w hn hl hs hon hat
  by_cases h : mayP (cutsOf L) on c p q
  · have hf := hid (show giveA (cutsOf L) on c p q = adA (cutsOf L) on c p q from if_pos h)
    rw [mayB_iff.2 h] at kM
    have hn32 : n ≤ 32 := by have := h.1.2.1; rw [cutsOf_len, hn] at this; exact this
    have kA := fun w' (hb : Below w.heap.size w w') => radd_any a n c0 L on c p q w' hn hn32 (short_of h.1) hon (hat.below hb)
    replace h := hid h
    replace hn := hid hn
    clear hs hat
    go_enter Try.func17, Try.ntmps17
    go_wp2_with fail
    refine kM.mono ?_
    rintro e w1 ⟨rfl, hb1⟩
    go_wp2_with fail
    refine (kA _ hb1).mono ?_
    rintro e w2 ⟨ad, k, M, rfl, hM, hP, hb2⟩
    go_wp2
    go_ret2
    rw [hf.out]
    exact ⟨ad, k, M, rfl, hM, hP.low hb1.size, bnext hb1 hb2⟩
  · have hf := hid (show giveA (cutsOf L) on c p q = ([], 2) from if_neg h)
    rw [mayB_no h] at kM
    replace h := hid h
    replace hn := hid hn
    clear hs hat
    go_enter Try.func17, Try.ntmps17
    go_wp2_with fail
    refine kM.mono ?_
    rintro e w1 ⟨rfl, hb1⟩
    go_wp2
    go_ret2
    rw [hf.out]
    exact ptold_nil _ _ _ hb1

end Go.Proofs.Yticlpjpbjgfgmaa
