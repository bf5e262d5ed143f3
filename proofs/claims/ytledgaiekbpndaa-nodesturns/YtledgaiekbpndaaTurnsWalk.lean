/- NodesTurns' walk. -/
import Derived.Test.YtledgaiekbpndaaTurnsP
namespace Go.Proofs.Ytledgaiekbpndaa
open Go.RowKit

/-- The rows up and epoch, filled up to j. -/
structure L1 (w0 : World) (n gu ge : Nat) (L : List Nod) (a : Option Addr) (c j : Nat) (w : World) : Prop where
  s : DOwn w w0.heap.size (.slice a n c) L
  u : UOwn w w0.heap.size gu n (List.replicate j (.bool true) ++ List.replicate (n - j) (.bool false))
  e : EOwn w w0.heap.size ge n (List.replicate j (.int .i64 1) ++ List.replicate (n - j) (.int .i64 0))
  b : Below w0.heap.size w0 w

theorem fill_set {x y : Value} {j n : Nat} (h : j < n) : (List.replicate j x ++ List.replicate (n - j) y).set j x = List.replicate (j + 1) x ++ List.replicate (n - (j + 1)) y := by
  rw [show n - j = (n - (j + 1)) + 1 by omega, List.replicate_succ, List.set_append_right _ _ (by simp)]
  simp only [List.length_replicate, Nat.sub_self, List.set_cons_zero]
  rw [List.replicate_succ' (n := j), List.append_assoc]
  rfl

theorem L1.ne {w0 : World} {n gu ge : Nat} {L : List Nod} {a : Option Addr} {c j : Nat} {w : World} (h : L1 w0 n gu ge L a c j w) : ¬ gu = ge := by
  intro e
  subst e
  exact owns_apart h.u h.e (by decide) gu rfl rfl

theorem L1.next {w0 : World} {n gu ge : Nat} {L : List Nod} {a : Option Addr} {c j : Nat} {w : World} (h : L1 w0 n gu ge L a c j w) (hj : j < n) :
    L1 w0 n gu ge L a c (j + 1) ((w.setCell ⟨gu, j, none⟩ (.bool true)).setCell ⟨ge, j, none⟩ (.int .i64 1)) := by
  have hbase := (row1 h.u hj).2.1
  have hbase2 := (row1 h.e hj).2.1
  have hk1 := kp_set w gu j (.bool true)
  have hk2 := kp_set (w.setCell ⟨gu, j, none⟩ (.bool true)) ge j (.int .i64 1)
  have hu1 := owns_put h.u (i := j) (by omega) (.bool true)
  have he1 := owns_kp h.e hk1 fun k hk e => by
    subst e
    exact owns_apart h.e h.u (by decide) k hk rfl
  have hs1 := owns_kp h.s hk1 fun k hk e => by
    subst e
    exact owns_apart h.s h.u (by decide) k hk rfl
  have hse := h.s
  refine ⟨owns_kp hs1 hk2 fun k hk e => ?_, ?_, ?_, Below.setCell (p := ⟨ge, j, none⟩) (Below.setCell (p := ⟨gu, j, none⟩) h.b hbase _) hbase2 _⟩
  · subst e
    exact owns_apart hs1 he1 (by decide) k hk rfl
  · unfold UOwn
    rw [← fill_set hj]
    refine owns_kp hu1 hk2 fun k hk e => ?_
    subst e
    exact owns_apart hu1 he1 (by decide) k hk rfl
  · unfold EOwn
    rw [← fill_set hj]
    exact owns_put he1 (by omega) _

theorem made_bools (n : Nat) : (madeCells (Value.bool false).cells (n * 1)).toList = List.replicate n (.bool false) := by
  simp [madeCells, Value.cells]
  apply List.ext_getElem
  · simp
  · intro i h1 h2
    simp [Nat.mod_one]

theorem made_ints' (n : Nat) : (madeCells (Value.int .i64 0).cells (n * 1)).toList = List.replicate n (.int .i64 0) := by
  simp [madeCells, Value.cells]
  apply List.ext_getElem
  · simp
  · intro i h1 h2
    simp [Nat.mod_one]

theorem const_map {α β : Type} {f : α → β} {v : β} (h : ∀ x, f x = v) {L : List α} : L.map f = List.replicate L.length v := by
  induction L with
  | nil => rfl
  | cons x t ih => rw [List.map_cons, ih, h, List.length_cons, List.replicate_succ]

theorem ups_get {L : List Nod} {k : Nat} (h : k < L.length) (h2 : k < (ups L).length) : (ups L)[k] = .bool (nodAt L k).2.1 := by
  rw [← nodAt_eq h]; simp [ups]
theorem eps_get {L : List Nod} {k : Nat} (h : k < L.length) (h2 : k < (eps L).length) : (eps L)[k] = .int .i64 (nodAt L k).2.2 := by
  rw [← nodAt_eq h]; simp [eps]

set_option maxRecDepth 100000 in
set_option maxHeartbeats 4000000 in
theorem turns_any (a0 a1 : Option Addr) (n0 c0 m c1 : Nat) (Z Y : List Int) (w : World) (hZ : Z.length = n0) (hl0 : n0 ≤ 4611686018427387904) (hY : Y.length = m)
    (hYw : ∀ y ∈ Y, -9223372036854775808 ≤ y ∧ y ≤ 9223372036854775807) (hat0 : CAt w a0 (Z.map I)) (hat1 : CAt w a1 (Y.map I)) :
    Calls Try.prog 4 #[.slice a0 n0 c0, .slice a1 m c1] w fun e w' => e = .returned (.bool true) ∧ Below w.heap.size w w' := by
  have kN := new_any a0 n0 c0 Z w hZ hl0 hat0
  cases hB : rightB (mkN Z)
  · rw [show newP Z = ([], 2) by unfold newP; rw [hB]; rfl] at kN
    replace kN := told_n 0 rfl kN
    replace hZ := hid hZ
    replace hY := hid hY
    replace hYw := hid hYw
    replace hat0 := hid hat0
    replace hat1 := hid hat1
    replace hB := hid hB
    go_enter Try.func4, Try.ntmps4
    go_wp2_with fail
    refine kN.mono ?_
    rintro e w1 ⟨a, c, rfl, hc, ho, hb⟩
    replace ho := hid ho
    go_wp2_with fail
    refine (awake_any _).mono ?_
    rintro e w2 ⟨rfl, hb2⟩
    go_wp2
    go_ret
    exact ⟨rfl, bnext hb hb2⟩
  rw [show newP Z = (mkN Z, 0) by unfold newP; rw [hB]; rfl] at kN
  replace kN := told_n n0 (by rw [mkN_len]; exact hZ) kN
  have hr := right_is hB
  have hn1 : 1 ≤ n0 := by have := hr.1.1; rw [mkN_len] at this; omega
  have hn2 : n0 ≤ 32 := by have := hr.1.2; rw [mkN_len] at this; omega
  have hG0 := hid (GI.new hB)
  have hml := hid (mkN_len Z)
  obtain ⟨b0, o0, e⟩ := iat_place hat0 (by intro e; rw [e] at hZ; simp at hZ; omega)
  subst e
  have hup0 : ups (mkN Z) = List.replicate n0 (.bool true) := by
    unfold ups mkN
    rw [List.map_map, ← hZ]
    refine const_map ?_
    intro x
    rfl
  have hep0 : eps (mkN Z) = List.replicate n0 (.int .i64 1) := by
    unfold eps mkN
    rw [List.map_map, ← hZ]
    refine const_map ?_
    intro x
    rfl
  replace hup0 := hid hup0
  replace hep0 := hid hep0
  replace hZ := hid hZ
  replace hY := hid hY
  replace hYw := hid hYw
  replace hat0 := hid hat0
  replace hat1 := hid hat1
  replace hB := hid hB
  clear hr
  obtain ⟨i0, hi0, hz0, hz1, hz2⟩ := info_parts info4
  obtain ⟨i1, hi1, hy0, hy1, hy2⟩ := info_parts info3
  go_enter Try.func4, Try.ntmps4
  go_wp2_with fail
  refine kN.mono ?_
  rintro e w1 ⟨a, c, rfl, hc, ho, hb⟩
  replace ho := hid ho
  clear kN
  go_wp2_with (at_make; refine Hid.out ?_)
  refine wpList_make_full _ rfl (.tmp 31) (.tmp 31) 41 rfl w.heap.size 4 i0 _ 1 Try.underlying41 hi0 hz0 hz1 .i64 .i64 _ _ n0 rfl rfl (by omega) (by omega) (by rw [hz2]; omega) (by unfold maxLen; omega) hb.size ?_
  intro w2 hu hg2
  have bw2 : Below w1.heap.size w1 w2 := (Below.refl _ _).grown hg2 (Nat.le_refl _) (fun k hk => by cases hk)
  rw [made_bools] at hu
  have hu' : UOwn w2 w.heap.size w1.heap.size n0 (List.replicate n0 (.bool false)) := hu
  obtain ⟨gu, hgu⟩ : ∃ g, g = w1.heap.size := ⟨_, rfl⟩
  rw [← hgu] at hu' ⊢
  replace hu' := hid hu'
  replace hgu := hid hgu
  have ho2 := hid (ho.out.below bw2)
  have B2 := bnext hb bw2
  clear hu hg2 ho
  go_wp2_with (at_make; refine Hid.out ?_)
  refine wpList_make_full _ rfl (.tmp 34) (.tmp 34) 22 rfl w.heap.size 3 i1 _ 1 Try.underlying22 hi1 hy0 hy1 .i64 .i64 _ _ n0 rfl rfl (by omega) (by omega) (by rw [hy2]; omega) (by unfold maxLen; omega) B2.size ?_
  intro w3 he hg3
  have bw3 : Below w2.heap.size w2 w3 := (Below.refl _ _).grown hg3 (Nat.le_refl _) (fun k hk => by cases hk)
  rw [made_ints'] at he
  have he' : EOwn w3 w.heap.size w2.heap.size n0 (List.replicate n0 (.int .i64 0)) := he
  obtain ⟨ge, hge⟩ : ∃ g, g = w2.heap.size := ⟨_, rfl⟩
  rw [← hge] at he' ⊢
  replace hge := hid hge
  have hL0 : Hid (L1 w n0 gu ge (mkN Z) a c 0 w3) := ⟨ho2.out.below bw3, by unfold UOwn; simpa using owns_below hu'.out bw3, by simpa using he', bnext B2 bw3⟩
  clear he hg3 he' hu' ho2 B2 bw2 bw3 hb
  go_wp2_with fail
  go_loopw [38] (fun i wr => ∃ j : Nat, j ≤ n0 ∧ i = .int .i64 (j : Int) ∧ Hid (L1 w n0 gu ge (mkN Z) a c j wr)) (fun i _ => n0 - (intOf i).toNat)
  case atStart => exact ⟨0, Nat.zero_le _, rfl, hL0⟩
  case round =>
    obtain ⟨j, hj, rfl, hL⟩ := hrel
    by_cases hlt : j < n0
    · obtain ⟨g1, g2, f1, x1⟩ := row1 hL.out.u hlt
      obtain ⟨g3, g4, f2, x2⟩ := row1 hL.out.e hlt
      have hne := hL.out.ne
      have hne2 : ¬ ge = gu := fun h => hne h.symm
      have hL2 := hid (hL.out.next hlt)
      generalize (List.replicate j (Value.bool true) ++ List.replicate (n0 - j) (.bool false))[j]'_ = V1 at x1
      generalize (List.replicate j (Value.int .i64 1) ++ List.replicate (n0 - j) (.int .i64 0))[j]'_ = V2 at x2
      go_wp2_with fail
      go_roundw
      case rel => exact ⟨j + 1, by omega, by go_num, hL2⟩
      case measure => simp [intOf]; omega
    · have hje : n0 = j := by omega
      subst hje
      have hT0 : Hid (TM w n0 gu ge (mkN Z) a c wr) := by
        refine ⟨hL.out.s, ?_, ?_, hL.out.b, by rw [mkN_len]; exact hZ.out, hc⟩
        · rw [hup0.out]; simpa using hL.out.u
        · rw [hep0.out]; simpa using hL.out.e
      clear hL hup0 hep0 hml hL0 hlt hj
      go_wp2_with fail
      go_loopw [5, 10] (fun v q wr => ∃ (i : Nat) (L : List Nod) (a : Option Addr) (c : Nat), i ≤ m ∧ i ≤ 200 ∧ v = .slice a n0 c ∧ q = .int .i64 (i : Int) ∧ Hid (GI Z i L) ∧ Hid (TM w n0 gu ge L a c wr)) (fun _ q _ => m - (intOf q).toNat)
      case atStart => exact ⟨0, mkN Z, a, c, Nat.zero_le _, by omega, rfl, rfl, hG0, hT0⟩
      case round =>
        clear hT0 hG0 hc
        obtain ⟨i, L, a, c, him, hi2, rfl, rfl, hG, hT⟩ := hrel
        by_cases hlm : i < m ∧ i < 200
        · obtain ⟨hlt, hi200⟩ := hlm
          have d1 : decide ((i : Int) < (m : Int)) = true := by simp; omega
          have d2 : decide ((i : Int) < 200) = true := by simp; omega
          have hiY : i < Y.length := by rw [hY.out]; exact hlt
          obtain ⟨b1, o1, e⟩ := iat_place hat1.out (by intro e; rw [e] at hiY; simp at hiY)
          subst e
          have z0 := iat_cell (CAt.below hat1.out hT.out.b) i hiY
          have hyw := hYw.out _ (List.getElem_mem hiY)
          generalize Y[i] = y at *
          by_cases hy : y < 0
          · have dy : decide (y < 0) = true := by simpa using hy
            obtain ⟨p, hpe⟩ : ∃ p : Nat, -1 - y = (p : Int) := ⟨(-1 - y).toNat, by omega⟩
            have hq : IntKind.i64.wrap (-1 - y) = (p : Int) := by rw [IntKind.wrap_i64]; omega
            replace hpe := hid hpe
            by_cases hp : p < n0
            · cases hU : (nodAt L p).2.1
              · skip
                have hgo : (rightB L && placeB L.length (p : Int)) = true := by rw [hT.out.ln, hG.out.right, show placeB n0 (p : Int) = true from decide_eq_true ⟨by omega, by omega⟩]; rfl
                have dp : decide ((p : Int) < (n0 : Int)) = true := by simp; omega
                have hpn1 : (p : Int) ≤ (n0 : Int) - 1 := by omega
                have hw1 : IntKind.i64.wrap ((n0 : Int) - 1) = (n0 : Int) - 1 := by rw [IntKind.wrap_i64]; omega
                have hpL : p < L.length := by rw [hT.out.ln]; exact hp
                have hans : failP L (p : Int) = ([], 180) := by unfold failP; rw [hgo, Int.toNat_natCast, hU]; rfl
                replace hgo := hid hgo
                have kR := rise_any a n0 c L (p : Int) wr hT.out.ln (by omega) hT.out.s.dat
                generalize riseP L (p : Int) = D4 at kR
                obtain ⟨D4, E4⟩ := D4
                replace kR := told_n D4.length rfl kR
                generalize hM4 : D4.length = M4 at kR
                replace hM4 := hid hM4
                replace hU := hid hU
                replace hans := hid hans
                go_wp2_with fail
                refine kR.mono ?_
                rintro e w4 ⟨a4, c4, rfl, hc4, ho4, hb4⟩
                clear kR ho4
                have kF := fail_any a n0 c L (p : Int) w4 hT.out.ln (by omega) (hT.out.s.dat.below hb4)
                rw [hans.out] at kF
                replace kF := told_n 0 rfl kF
                go_wp2_with fail
                refine kF.mono ?_
                rintro e w5 ⟨a5, c5, rfl, hc5, ho5, hb5⟩
                have hb45 := bnext hb4 hb5
                replace ho5 := ho5.low hb4.size
                clear kF hb5
                obtain ⟨g1, g2, f1, x1⟩ := row1 (owns_below hT.out.u hb45) hp
                rw [ups_get hpL, hU.out] at x1
                have hT5 := hid (hT.out.below hb45)
                clear ho5 hb45 f1
                have hG2 := hid hG.out.mono
                go_wp2_with fail
                go_roundw
                case rel => exact ⟨i + 1, L, a, c, by omega, by omega, rfl, by go_num, hG2, hT5⟩
                case measure => simp [intOf]; omega
              · skip
                have hgo : (rightB L && placeB L.length (p : Int)) = true := by rw [hT.out.ln, hG.out.right, show placeB n0 (p : Int) = true from decide_eq_true ⟨by omega, by omega⟩]; rfl
                have dp : decide ((p : Int) < (n0 : Int)) = true := by simp; omega
                have hpn1 : (p : Int) ≤ (n0 : Int) - 1 := by omega
                have hw1 : IntKind.i64.wrap ((n0 : Int) - 1) = (n0 : Int) - 1 := by rw [IntKind.wrap_i64]; omega
                have hpL : p < L.length := by rw [hT.out.ln]; exact hp
                have hans : failP L (p : Int) = (failN L p, 0) := by unfold failP; rw [hgo, Int.toNat_natCast, hU]; rfl
                replace hgo := hid hgo
                have kR := rise_any a n0 c L (p : Int) wr hT.out.ln (by omega) hT.out.s.dat
                generalize riseP L (p : Int) = D4 at kR
                obtain ⟨D4, E4⟩ := D4
                replace kR := told_n D4.length rfl kR
                generalize hM4 : D4.length = M4 at kR
                replace hM4 := hid hM4
                replace hU := hid hU
                replace hans := hid hans
                go_wp2_with fail
                refine kR.mono ?_
                rintro e w4 ⟨a4, c4, rfl, hc4, ho4, hb4⟩
                clear kR ho4
                have kF := fail_any a n0 c L (p : Int) w4 hT.out.ln (by omega) (hT.out.s.dat.below hb4)
                rw [hans.out] at kF
                replace kF := told_n n0 (show (failN L p).length = n0 by unfold failN; rw [List.length_set]; exact hT.out.ln) kF
                go_wp2_with fail
                refine kF.mono ?_
                rintro e w5 ⟨a5, c5, rfl, hc5, ho5, hb5⟩
                have hb45 := bnext hb4 hb5
                replace ho5 := ho5.low hb4.size
                clear kF hb5
                obtain ⟨g1, g2, f1, x1⟩ := row1 (owns_below hT.out.u hb45) hp
                rw [ups_get hpL, hU.out] at x1
                have hT2 := hid (hT.out.failed hb45 hp ho5 hc5)
                have hG2 := hid (hG.out.fail hpL)
                clear ho5 hb45
                go_wp2_with fail
                go_loopw [122] (fun q wr' => ∃ k : Nat, k ≤ n0 ∧ q = .int .i64 (k : Int) ∧ Hid (TM w n0 gu ge (failN L p) a5 c5 wr')) (fun q _ => n0 - (intOf q).toNat)
                case atStart => exact ⟨0, Nat.zero_le _, rfl, hT2⟩
                case round =>
                  obtain ⟨k2, hk2, rfl, hT3⟩ := hrel
                  by_cases hlt2 : k2 < n0
                  · have hkL : k2 < (failN L p).length := by rw [hT3.out.ln]; exact hlt2
                    have hkZ : k2 < Z.length := by rw [hZ.out]; exact hlt2
                    obtain ⟨b5, o5, e⟩ := hT3.out.s.dat.place (by omega)
                    subst e
                    obtain ⟨x0, x1, x2⟩ := hT3.out.s.dat.one hkL
                    have y1 := (row1 hT3.out.u hlt2).2.2.2
                    have y2 := (row1 hT3.out.e hlt2).2.2.2
                    rw [ups_get hkL] at y1
                    rw [eps_get hkL] at y2
                    have y0 := iat_cell (CAt.below hat0.out hT3.out.b) k2 hkZ
                    have hco := hG2.out.co k2 hkL
                    rw [show Z.getD k2 0 = Z[k2] by simp [hkZ]] at hco
                    rw [← hco] at y0
                    have hTd := fun nq => hid (hT3.out.below (below_drewN (Below.refl _ _) nq))
                    clear hco
                    generalize nodAt (failN L p) k2 = X at *
                    obtain ⟨X0, X1, X2⟩ := X
                    dsimp only at *
                    go_wp2_with fail
                    go_quiet (fail)
                    replace hTd := hTd nq
                    go_wp2_with fail
                    go_roundw
                    case rel => exact ⟨k2 + 1, by omega, by go_num, hTd⟩
                    case measure => simp [intOf]; omega
                  · have hke : n0 = k2 := by omega
                    subst hke
                    go_wp2_with fail
                    go_roundw
                    case rel => exact ⟨i + 1, _, _, _, by omega, by omega, rfl, by go_num, hG2, hT3⟩
                    case measure => simp [intOf]; omega
            · skip
              have hans : failP L (p : Int) = ([], 2) := by unfold failP; rw [show (rightB L && placeB L.length (p : Int)) = false by rw [hT.out.ln, show placeB n0 (p : Int) = false from decide_eq_false (by omega), Bool.and_false]]; rfl
              have dp : decide ((p : Int) < (n0 : Int)) = false := by simp; omega
              have kR := rise_any a n0 c L (p : Int) wr hT.out.ln (by omega) hT.out.s.dat
              generalize riseP L (p : Int) = D4 at kR
              obtain ⟨D4, E4⟩ := D4
              replace kR := told_n D4.length rfl kR
              generalize hM4 : D4.length = M4 at kR
              replace hM4 := hid hM4
              replace hans := hid hans
              go_wp2_with fail
              refine kR.mono ?_
              rintro e w4 ⟨a4, c4, rfl, hc4, ho4, hb4⟩
              clear kR ho4
              have kF := fail_any a n0 c L (p : Int) w4 hT.out.ln (by omega) (hT.out.s.dat.below hb4)
              rw [hans.out] at kF
              replace kF := told_n 0 rfl kF
              go_wp2_with fail
              refine kF.mono ?_
              rintro e w5 ⟨a5, c5, rfl, hc5, ho5, hb5⟩
              have hb45 := bnext hb4 hb5
              replace ho5 := ho5.low hb4.size
              clear kF hb5
              have hT5 := hid (hT.out.below hb45)
              clear ho5 hb45
              have hG2 := hid hG.out.mono
              go_wp2_with fail
              go_roundw
              case rel => exact ⟨i + 1, L, a, c, by omega, by omega, rfl, by go_num, hG2, hT5⟩
              case measure => simp [intOf]; omega
          · have dy : decide (y < 0) = false := by simpa using hy
            obtain ⟨p, rfl⟩ : ∃ p : Nat, y = (p : Int) := ⟨y.toNat, by omega⟩
            by_cases hp : p < n0
            · cases hU : (nodAt L p).2.1
              · skip
                have hgo : (rightB L && placeB L.length (p : Int)) = true := by rw [hT.out.ln, hG.out.right, show placeB n0 (p : Int) = true from decide_eq_true ⟨by omega, by omega⟩]; rfl
                have dp : decide ((p : Int) < (n0 : Int)) = true := by simp; omega
                have hpn1 : (p : Int) ≤ (n0 : Int) - 1 := by omega
                have hw1 : IntKind.i64.wrap ((n0 : Int) - 1) = (n0 : Int) - 1 := by rw [IntKind.wrap_i64]; omega
                have hpL : p < L.length := by rw [hT.out.ln]; exact hp
                have hep := hG.out.ep p hpL
                have hep1 := (nod_ok hG.out.right hpL).2.2.1
                have h30 : ¬ (nodAt L p).2.2 = 1073741824 := by omega
                have hans : riseP L (p : Int) = (riseN L p, 0) := by unfold riseP; rw [hgo, Int.toNat_natCast, hU, if_neg h30]; rfl
                clear h30
                have hwe : IntKind.i64.wrap ((nodAt L p).2.2 + 1) = (nodAt L p).2.2 + 1 := by rw [IntKind.wrap_i64]; omega
                replace hgo := hid hgo
                replace hU := hid hU
                replace hans := hid hans
                have kR := rise_any a n0 c L (p : Int) wr hT.out.ln (by omega) hT.out.s.dat
                rw [hans.out] at kR
                replace kR := told_n n0 (show (riseN L p).length = n0 by unfold riseN; rw [List.length_set]; exact hT.out.ln) kR
                go_wp2_with fail
                refine kR.mono ?_
                rintro e w5 ⟨a5, c5, rfl, hc5, ho5, hb45⟩
                clear kR
                obtain ⟨g1, g2, f1, x1⟩ := row1 (owns_below hT.out.u hb45) hp
                rw [ups_get hpL, hU.out] at x1
                obtain ⟨g3, g4, f2, x2⟩ := row1 (owns_below hT.out.e hb45) hp
                rw [eps_get hpL] at x2
                have hne := hT.out.ne
                have hne2 : ¬ ge = gu := fun h => hne h.symm
                have hT2 := hid (hT.out.risen hb45 hp ho5 hc5)
                have hG2 := hid (hG.out.rise hi200 hpL)
                generalize (nodAt L p).2.2 = E0 at *
                clear ho5 hb45
                go_wp2_with fail
                go_loopw [122] (fun q wr' => ∃ k : Nat, k ≤ n0 ∧ q = .int .i64 (k : Int) ∧ Hid (TM w n0 gu ge (riseN L p) a5 c5 wr')) (fun q _ => n0 - (intOf q).toNat)
                case atStart => exact ⟨0, Nat.zero_le _, rfl, hT2⟩
                case round =>
                  obtain ⟨k2, hk2, rfl, hT3⟩ := hrel
                  by_cases hlt2 : k2 < n0
                  · have hkL : k2 < (riseN L p).length := by rw [hT3.out.ln]; exact hlt2
                    have hkZ : k2 < Z.length := by rw [hZ.out]; exact hlt2
                    obtain ⟨b5, o5, e⟩ := hT3.out.s.dat.place (by omega)
                    subst e
                    obtain ⟨x0, x1, x2⟩ := hT3.out.s.dat.one hkL
                    have y1 := (row1 hT3.out.u hlt2).2.2.2
                    have y2 := (row1 hT3.out.e hlt2).2.2.2
                    rw [ups_get hkL] at y1
                    rw [eps_get hkL] at y2
                    have y0 := iat_cell (CAt.below hat0.out hT3.out.b) k2 hkZ
                    have hco := hG2.out.co k2 hkL
                    rw [show Z.getD k2 0 = Z[k2] by simp [hkZ]] at hco
                    rw [← hco] at y0
                    have hTd := fun nq => hid (hT3.out.below (below_drewN (Below.refl _ _) nq))
                    clear hco
                    generalize nodAt (riseN L p) k2 = X at *
                    obtain ⟨X0, X1, X2⟩ := X
                    dsimp only at *
                    go_wp2_with fail
                    go_quiet (fail)
                    replace hTd := hTd nq
                    go_wp2_with fail
                    go_roundw
                    case rel => exact ⟨k2 + 1, by omega, by go_num, hTd⟩
                    case measure => simp [intOf]; omega
                  · have hke : n0 = k2 := by omega
                    subst hke
                    go_wp2_with fail
                    go_roundw
                    case rel => exact ⟨i + 1, _, _, _, by omega, by omega, rfl, by go_num, hG2, hT3⟩
                    case measure => simp [intOf]; omega
              · skip
                have hgo : (rightB L && placeB L.length (p : Int)) = true := by rw [hT.out.ln, hG.out.right, show placeB n0 (p : Int) = true from decide_eq_true ⟨by omega, by omega⟩]; rfl
                have dp : decide ((p : Int) < (n0 : Int)) = true := by simp; omega
                have hpn1 : (p : Int) ≤ (n0 : Int) - 1 := by omega
                have hw1 : IntKind.i64.wrap ((n0 : Int) - 1) = (n0 : Int) - 1 := by rw [IntKind.wrap_i64]; omega
                have hpL : p < L.length := by rw [hT.out.ln]; exact hp
                have hans : riseP L (p : Int) = ([], 180) := by unfold riseP; rw [hgo, Int.toNat_natCast, hU]; rfl
                replace hgo := hid hgo
                replace hU := hid hU
                replace hans := hid hans
                have kR := rise_any a n0 c L (p : Int) wr hT.out.ln (by omega) hT.out.s.dat
                rw [hans.out] at kR
                replace kR := told_n 0 rfl kR
                go_wp2_with fail
                refine kR.mono ?_
                rintro e w5 ⟨a5, c5, rfl, hc5, ho5, hb45⟩
                clear kR
                obtain ⟨g1, g2, f1, x1⟩ := row1 (owns_below hT.out.u hb45) hp
                rw [ups_get hpL, hU.out] at x1
                have hT5 := hid (hT.out.below hb45)
                clear ho5 hb45 f1
                have hG2 := hid hG.out.mono
                go_wp2_with fail
                go_roundw
                case rel => exact ⟨i + 1, L, a, c, by omega, by omega, rfl, by go_num, hG2, hT5⟩
                case measure => simp [intOf]; omega
            · skip
              have hans : riseP L (p : Int) = ([], 2) := by unfold riseP; rw [show (rightB L && placeB L.length (p : Int)) = false by rw [hT.out.ln, show placeB n0 (p : Int) = false from decide_eq_false (by omega), Bool.and_false]]; rfl
              have dp : decide ((p : Int) < (n0 : Int)) = false := by simp; omega
              replace hans := hid hans
              have kR := rise_any a n0 c L (p : Int) wr hT.out.ln (by omega) hT.out.s.dat
              rw [hans.out] at kR
              replace kR := told_n 0 rfl kR
              go_wp2_with fail
              refine kR.mono ?_
              rintro e w5 ⟨a5, c5, rfl, hc5, ho5, hb45⟩
              clear kR
              have hT5 := hid (hT.out.below hb45)
              clear ho5 hb45
              have hG2 := hid hG.out.mono
              go_wp2_with fail
              go_roundw
              case rel => exact ⟨i + 1, L, a, c, by omega, by omega, rfl, by go_num, hG2, hT5⟩
              case measure => simp [intOf]; omega
        · have kR := right_any a n0 c L wr hT.out.ln (by omega) hT.out.s.dat
          rw [hG.out.right] at kR
          have hbT := hT.out.b
          have d12 : decide ((i : Int) < (m : Int)) = false ∨ decide ((i : Int) < 200) = false := by
            rcases Nat.lt_or_ge i m with h | h
            · right; simp; omega
            · left; simp; omega
          rcases Nat.lt_or_ge i m with h | h
          · have d1 : decide ((i : Int) < (m : Int)) = true := by simp; omega
            have d2 : decide ((i : Int) < 200) = false := by simp; omega
            clear d12
            go_wp2_with fail
            refine kR.mono ?_
            rintro e w6 ⟨rfl, hb6⟩
            go_wp2_with fail
            refine (awake_any _).mono ?_
            rintro e w7 ⟨rfl, hb7⟩
            have B7 := bnext hbT (bnext hb6 hb7)
            go_wp2
            go_ret
            exact ⟨rfl, B7⟩
          · have d1 : decide ((i : Int) < (m : Int)) = false := by simp; omega
            clear d12
            go_wp2_with fail
            refine kR.mono ?_
            rintro e w6 ⟨rfl, hb6⟩
            go_wp2_with fail
            refine (awake_any _).mono ?_
            rintro e w7 ⟨rfl, hb7⟩
            have B7 := bnext hbT (bnext hb6 hb7)
            go_wp2
            go_ret
            exact ⟨rfl, B7⟩

end Go.Proofs.Ytledgaiekbpndaa
