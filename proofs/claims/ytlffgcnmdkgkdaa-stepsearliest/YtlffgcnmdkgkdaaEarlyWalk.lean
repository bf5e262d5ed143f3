/- The law StepsEarliest answers true, whatever it is handed. -/
import Derived.Test.YtlffgcnmdkgkdaaAddWalk
namespace Go.Proofs.Ytlffgcnmdkgkdaa
open Go.RowKit

/-- Whether t is a, or the time of one of the first cuts. -/
def cutT (C : List Cut) (t a : Int) : Nat → Bool
  | 0 => (t == a)
  | k + 1 => cutT C t a k || (tm C k == t)

theorem cutT_mono (C : List Cut) (t a : Int) (k d : Nat) (h : cutT C t a k = true) : cutT C t a (k + d) = true := by
  induction d with
  | zero => exact h
  | succ d ih => show (cutT C t a (k + d) || _) = true; rw [ih]; rfl

theorem cut_fit {C : List Cut} {a len n t : Int} (h : IsFit C a len n t) : cutT C t a C.length = true := by
  rcases h.2.2.2 with e | ⟨i, h1, e⟩
  · have := cutT_mono C t a 0 C.length (by show (t == a) = true; rw [e]; exact beq_self_eq_true a)
    rw [Nat.zero_add] at this; exact this
  · have := cutT_mono C t a (i + 1) (C.length - (i + 1)) (by show (cutT C t a i || (tm C i == t)) = true; rw [e]; simp)
    rw [show i + 1 + (C.length - (i + 1)) = C.length by omega] at this; exact this

theorem ls_fit {C : List Cut} {a len n t : Int} (h : IsFit C a len n t) (hr : RightP C) (h0 : 0 ≤ t) (hl : 1 ≤ len) (h2 : t + len ≤ 2199023255552) : n ≤ lsT C t (t + len) C.length := by
  obtain ⟨_, s, s1, s2, s3⟩ := ls_least hr h0 (show t < t + len by omega) h2
  rw [← s3]
  exact h.2.1 s s1 s2

theorem ls_miss {C : List Cut} {u len n : Int} (h : ∃ s, u ≤ s ∧ s < u + len ∧ val C s < n) (hr : RightP C) (h0 : 0 ≤ u) (hl : 1 ≤ len) (h2 : u + len ≤ 2199023255552) : lsT C u (u + len) C.length < n := by
  obtain ⟨s, s1, s2, s3⟩ := h
  have := (ls_least hr h0 (show u < u + len by omega) h2).1 s s1 s2
  omega

set_option maxRecDepth 100000 in
set_option maxHeartbeats 2000000 in
theorem early_any (s : Option Addr) (n c : Nat) (C : List Cut) (a b m p q r : Int) (w : World) (hn : C.length = n) (hl : n ≤ 4611686018427387904) (hat : SAt w s C) :
    Calls Try.prog 6 #[.slice s n c, .agg #[.int .i64 a, .int .i64 b, .int .i64 m], .agg #[.int .i64 p, .int .i64 q, .int .i64 r]] w fun e w' => e = .returned (.bool true) ∧ Below w.heap.size w w' := by
  replace hn := hid hn
  replace hat := hid hat
  have b0 := two_new w (.cells #[.int .i64 a, .int .i64 b, .int .i64 m] 24) (.cells #[.int .i64 p, .int .i64 q, .int .i64 r] 24)
  have X0 := (Sp.new w a b m).below (below_lit _ (.cells #[.int .i64 p, .int .i64 q, .int .i64 r] 24))
  have Y0 := Sp.new (w.alloc (.cells #[.int .i64 a, .int .i64 b, .int .i64 m] 24)) p q r
  rw [size_alloc] at Y0
  have xa := X0.c0
  have xb := X0.c1
  have xm := X0.c2
  have yp := Y0.c0
  have yq := Y0.c1
  have yr := Y0.c2
  have kF := fit_any s n c C a p m ((w.alloc (.cells #[.int .i64 a, .int .i64 b, .int .i64 m] 24)).alloc (.cells #[.int .i64 p, .int .i64 q, .int .i64 r] 24)) hn.out hl (hat.out.below b0)
  by_cases hg : ftP C a p m
  · have hrr := hg.1
    have ha := hg.2.1
    have hp := hg.2.2.1
    by_cases hf : 1099511627776 < fitP C a p m
    · rw [show ftA C a p m = (0, 120) by unfold ftA; rw [if_pos hg, if_pos hf]] at kF
      have hno := hid (fit_no hrr (n := m) ha.1 hp.1 hf)
      replace hg := hid hg
      replace hrr := hid hrr
      clear hf
      go_enter Try.func6, Try.ntmps6
      go_wp2_with fail
      refine kF.mono ?_
      rintro e w1 ⟨rfl, b1⟩
      have X1 := X0.below b1
      have Y1 := Y0.below b1
      have S1 := (hat.out.below b0).below b1
      have B1 := bnext b0 b1
      clear b1 b0 kF X0 Y0 xa xb xm yp yq yr
      have xa := X1.c0
      have xb := X1.c1
      have xm := X1.c2
      have yp := Y1.c0
      have yq := Y1.c1
      have yr := Y1.c2
      by_cases hi : a ≤ q ∧ q ≤ 1099511627776
      · have d1 : decide (a ≤ q) = true := decide_eq_true hi.1
        have d2 : decide (q ≤ 1099511627776) = true := decide_eq_true hi.2
        have hq := hid (ls_miss (hno.out q hi.1 hi.2) hrr.out (by omega) hp.1 (by omega))
        have hwq : IntKind.i64.wrap (q + p) = q + p := by rw [IntKind.wrap_i64]; omega
        have kL := least_any s n c C q (q + p) w1 hn.out hl S1
        rw [show lsA C q (q + p) = (lsT C q (q + p) C.length, 0) from if_pos ⟨hrr.out, by omega, by omega, by omega⟩] at kL
        generalize lsT C q (q + p) C.length = L at *
        have dL : decide (m ≤ L) = false := decide_eq_false (by have := hq.out; omega)
        replace hi := hid hi
        go_wp2_with fail
        refine kL.mono ?_
        rintro e w2 ⟨rfl, b2⟩
        have X2 := X1.below b2
        have Y2 := Y1.below b2
        have S2 := S1.below b2
        have B2 := bnext B1 b2
        clear b2 X1 Y1 S1 kL xa xb xm yp yq yr
        have xa := X2.c0
        have xb := X2.c1
        have xm := X2.c2
        have yp := Y2.c0
        have yq := Y2.c1
        have yr := Y2.c2
        go_wp2_with fail
        refine (awake_any _).mono ?_
        rintro e w7 ⟨rfl, b7⟩
        have B7 := bnext B2 b7
        go_wp2
        go_ret
        exact ⟨rfl, B7⟩
      · have dij : decide (a ≤ q) = false ∨ (decide (a ≤ q) = true ∧ decide (q ≤ 1099511627776) = false) := by
          by_cases h1 : a ≤ q
          · exact .inr ⟨decide_eq_true h1, decide_eq_false fun h2 => hi ⟨h1, h2⟩⟩
          · exact .inl (decide_eq_false h1)
        replace hi := hid hi
        rcases dij with d1 | ⟨d1, d2⟩
        all_goals
          go_wp2_with fail
          refine (awake_any _).mono ?_
          rintro e w7 ⟨rfl, b7⟩
          have B7 := bnext B1 b7
          go_wp2
          go_ret
          exact ⟨rfl, B7⟩
    · rw [show ftA C a p m = (fitP C a p m, 0) by unfold ftA; rw [if_pos hg, if_neg hf]] at kF
      have hok := hid (fit_ok hrr (n := m) ha.1 hp.1 hp.2 (by omega))
      have hcut := hid (cut_fit hok.out)
      have hta : a ≤ fitP C a p m := hok.out.1
      have hls := hid (ls_fit hok.out hrr (by omega) hp.1 (by omega))
      have htm : fitP C a p m ≤ 1099511627776 := by omega
      replace hg := hid hg
      replace hrr := hid hrr
      clear hf
      generalize fitP C a p m = T at *
      go_enter Try.func6, Try.ntmps6
      go_wp2_with fail
      refine kF.mono ?_
      rintro e w1 ⟨rfl, b1⟩
      have X1 := X0.below b1
      have Y1 := Y0.below b1
      have S1 := (hat.out.below b0).below b1
      have B1 := bnext b0 b1
      clear b1 b0 kF X0 Y0 xa xb xm yp yq yr
      have xa := X1.c0
      have xb := X1.c1
      have xm := X1.c2
      have yp := Y1.c0
      have yq := Y1.c1
      have yr := Y1.c2
      by_cases hi : a ≤ q ∧ q < T
      · have d1 : decide (a ≤ q) = true := decide_eq_true hi.1
        have d2 : decide (q ≤ 1099511627776) = true := decide_eq_true (by omega)
        have d3 : decide (q < T) = true := decide_eq_true hi.2
        have hq := hid (ls_miss (hok.out.2.2.1 q hi.1 hi.2) hrr.out (by omega) hp.1 (by omega))
        have hwq : IntKind.i64.wrap (q + p) = q + p := by rw [IntKind.wrap_i64]; omega
        have kL := least_any s n c C q (q + p) w1 hn.out hl S1
        rw [show lsA C q (q + p) = (lsT C q (q + p) C.length, 0) from if_pos ⟨hrr.out, by omega, by omega, by omega⟩] at kL
        generalize lsT C q (q + p) C.length = L at *
        have dL : decide (m ≤ L) = false := decide_eq_false (by have := hq.out; omega)
        replace hi := hid hi
        go_wp2_with fail
        refine kL.mono ?_
        rintro e w2 ⟨rfl, b2⟩
        have X2 := X1.below b2
        have Y2 := Y1.below b2
        have S2 := S1.below b2
        have B2 := bnext B1 b2
        clear b2 X1 Y1 S1 kL xa xb xm yp yq yr
        have xa := X2.c0
        have xb := X2.c1
        have xm := X2.c2
        have yp := Y2.c0
        have yq := Y2.c1
        have yr := Y2.c2
        have hwt : IntKind.i64.wrap (T + p) = T + p := by rw [IntKind.wrap_i64]; omega
        have kM := least_any s n c C T (T + p) w2 hn.out hl S2
        rw [show lsA C T (T + p) = (lsT C T (T + p) C.length, 0) from if_pos ⟨hrr.out, by omega, by omega, by omega⟩] at kM
        generalize lsT C T (T + p) C.length = M at *
        have dM : decide (m ≤ M) = true := decide_eq_true hls.out
        have dta : decide (a ≤ T) = true := decide_eq_true hta
        go_wp2_with fail
        refine kM.mono ?_
        rintro e w3 ⟨rfl, b3⟩
        have X3 := X2.below b3
        have S3 := S2.below b3
        have B3 := bnext B2 b3
        have za := X3.c0
        have zm := X3.c2
        clear b3 X2 Y2 S2 kM xa xb xm yp yq yr
        replace S3 := hid S3
        go_wp2_with fail
        go_loopw [14, 15] (fun v i wr => ∃ j : Nat, j ≤ n ∧ v = .bool (cutT C T a j) ∧ i = .int .i64 (j : Int) ∧ wr = w3) (fun _ i _ => n - (intOf i).toNat)
        case atStart => exact ⟨0, Nat.zero_le _, rfl, rfl, rfl⟩
        case round =>
          obtain ⟨j, hj, rfl, rfl, rfl⟩ := hrel
          by_cases hlt : j < n
          · have hjL : j < C.length := by rw [hn.out]; exact hlt
            obtain ⟨cb, co, e⟩ := S3.out.place (by omega)
            subst e
            have y0 := (S3.out.one hjL).1
            cases hc : cutT C T a j
            · have hnx := hid (show cutT C T a (j + 1) = (tm C j == T) by show (cutT C T a j || _) = _; rw [hc]; rfl)
              replace hc := hid hc
              generalize tm C j = TJ at *
              go_wp2_with fail
              go_roundw
              case rel => exact ⟨j + 1, by omega, by rw [hnx.out], by go_num, trivial⟩
              case measure => simp [intOf]; omega
            · have hnx := hid (show cutT C T a (j + 1) = true by show (cutT C T a j || _) = _; rw [hc]; rfl)
              replace hc := hid hc
              go_wp2_with fail
              go_roundw
              case rel => exact ⟨j + 1, by omega, by rw [hnx.out], by go_num, trivial⟩
              case measure => simp [intOf]; omega
          · have hje : j = n := by omega
            subst hje
            have hct : cutT C T a j = true := by rw [← hn.out]; exact hcut.out
            rw [hct]
            replace hct := hid hct
            go_wp2_with fail
            refine (awake_any _).mono ?_
            rintro e w7 ⟨rfl, b7⟩
            have B7 := bnext B3 b7
            go_wp2
            go_ret
            exact ⟨rfl, B7⟩
      · have dij : decide (a ≤ q) = false ∨ (decide (a ≤ q) = true ∧ decide (q ≤ 1099511627776) = false) ∨ (decide (a ≤ q) = true ∧ decide (q ≤ 1099511627776) = true ∧ decide (q < T) = false) := by
          by_cases h1 : a ≤ q
          · by_cases h2 : q ≤ 1099511627776
            · exact .inr (.inr ⟨decide_eq_true h1, decide_eq_true h2, decide_eq_false fun h2 => hi ⟨h1, h2⟩⟩)
            · exact .inr (.inl ⟨decide_eq_true h1, decide_eq_false h2⟩)
          · exact .inl (decide_eq_false h1)
        replace hi := hid hi
        rcases dij with d1 | ⟨d1, d2⟩ | ⟨d1, d2, d3⟩
        all_goals
          have hwt : IntKind.i64.wrap (T + p) = T + p := by rw [IntKind.wrap_i64]; omega
          have kM := least_any s n c C T (T + p) w1 hn.out hl S1
          rw [show lsA C T (T + p) = (lsT C T (T + p) C.length, 0) from if_pos ⟨hrr.out, by omega, by omega, by omega⟩] at kM
          generalize lsT C T (T + p) C.length = M at *
          have dM : decide (m ≤ M) = true := decide_eq_true hls.out
          have dta : decide (a ≤ T) = true := decide_eq_true hta
          go_wp2_with fail
          refine kM.mono ?_
          rintro e w3 ⟨rfl, b3⟩
          have X3 := X1.below b3
          have S3 := S1.below b3
          have B3 := bnext B1 b3
          have za := X3.c0
          have zm := X3.c2
          clear b3 X1 Y1 S1 kM xa xb xm yp yq yr
          replace S3 := hid S3
          go_wp2_with fail
          go_loopw [14, 15] (fun v i wr => ∃ j : Nat, j ≤ n ∧ v = .bool (cutT C T a j) ∧ i = .int .i64 (j : Int) ∧ wr = w3) (fun _ i _ => n - (intOf i).toNat)
          case atStart => exact ⟨0, Nat.zero_le _, rfl, rfl, rfl⟩
          case round =>
            obtain ⟨j, hj, rfl, rfl, rfl⟩ := hrel
            by_cases hlt : j < n
            · have hjL : j < C.length := by rw [hn.out]; exact hlt
              obtain ⟨cb, co, e⟩ := S3.out.place (by omega)
              subst e
              have y0 := (S3.out.one hjL).1
              cases hc : cutT C T a j
              · have hnx := hid (show cutT C T a (j + 1) = (tm C j == T) by show (cutT C T a j || _) = _; rw [hc]; rfl)
                replace hc := hid hc
                generalize tm C j = TJ at *
                go_wp2_with fail
                go_roundw
                case rel => exact ⟨j + 1, by omega, by rw [hnx.out], by go_num, trivial⟩
                case measure => simp [intOf]; omega
              · have hnx := hid (show cutT C T a (j + 1) = true by show (cutT C T a j || _) = _; rw [hc]; rfl)
                replace hc := hid hc
                go_wp2_with fail
                go_roundw
                case rel => exact ⟨j + 1, by omega, by rw [hnx.out], by go_num, trivial⟩
                case measure => simp [intOf]; omega
            · have hje : j = n := by omega
              subst hje
              have hct : cutT C T a j = true := by rw [← hn.out]; exact hcut.out
              rw [hct]
              replace hct := hid hct
              go_wp2_with fail
              refine (awake_any _).mono ?_
              rintro e w7 ⟨rfl, b7⟩
              have B7 := bnext B3 b7
              go_wp2
              go_ret
              exact ⟨rfl, B7⟩
  · rw [show ftA C a p m = (0, 2) from if_neg hg] at kF
    replace hg := hid hg
    go_enter Try.func6, Try.ntmps6
    go_wp2_with fail
    refine kF.mono ?_
    rintro e w1 ⟨rfl, b1⟩
    have B1 := bnext b0 b1
    go_wp2_with fail
    refine (awake_any _).mono ?_
    rintro e w7 ⟨rfl, b7⟩
    have B7 := bnext B1 b7
    go_wp2
    go_ret
    exact ⟨rfl, B7⟩

end Go.Proofs.Ytlffgcnmdkgkdaa
