/- The law JournalKept answers true, whatever it is handed. -/
import Derived.Test.YtcbgnodmamcmkaaKeptE
namespace Go.Proofs.Ytcbgnodmamcmkaa
open Go.RowKit

theorem Life.armed {st : Nat → List UInt8} {all : List KB} {j : Jr} (h : Life st all j) {n : Nat} (hn : n ≤ 1000) : Life st all ⟨{ j.d with arm := (n : Int) }, j.l, j.s, j.f, j.b⟩ := by
  have hi := h.inv.armD (n := n) (by omega)
  unfold Dsk.armD at hi
  rw [if_neg (by omega)] at hi
  exact ⟨h.outs, hi, h.small, h.live⟩

/-- What the slots of the crash's region hold. -/
def pv25 (p gx : Nat) (keep torn : Int) : Nat → Value → Prop
  | 0, v => v = .pointer (some ⟨p, 0, none⟩)
  | 1, v => v = .pointer (some ⟨gx, 2, none⟩)
  | 2, v => v = .int .i64 keep
  | 3, v => ∃ n : Nat, v = .int .i64 (n : Int)
  | 4, v => v = .pointer (some ⟨gx, 3, none⟩)
  | 5, v => v = .int .i64 torn
  | 6, v => ∃ n : Nat, v = .int .i64 (n : Int)
  | 7, v => v = .int .i64 0
  | _, v => v = .bool false

theorem args3k {a : Act} {x y z : Operand} {v u t : Value} (h : a.eval x = v) (k : a.eval y = u) (l : a.eval z = t) : #[x, y, z].map a.eval = #[v, u, t] := by simp [h, k, l]
theorem kq3 {a : Act} {w : World} {K : Act → World → Prop} {d : Option Tmp} {v u : Value} (h : K (a.put d v) w) (e : v = u) : K (a.put d u) w := e ▸ h

set_option maxRecDepth 100000 in
set_option maxHeartbeats 16000000 in
theorem keptlaw_any (la : Option Addr) (ln lc : Nat) (Ls : List Lf) (w : World) (hn : Ls.length = ln) (hL : LAt w la Ls) :
    Calls Try.prog 7 #[.slice la ln lc] w fun e w' => e = .returned (.bool true) ∧ Below w.heap.size w w' := by
  obtain ⟨i27, hi27, z270, z271, z272⟩ := info_parts info27b
  have kA := fun w => awake_any w
  have kN := new_any w
  replace hn := hid hn
  replace hL := hid hL
  go_enter Try.func7, Try.ntmps7
  go_wp2_with fail
  refine kN.mono ?_
  rintro e w1 ⟨p, x0, rfl, hD, hT, hR, hb1⟩
  have start : Rest w.heap.size w w1 p x0 Dsk.new (.slice none 0 0) [] [] 0 := by
    refine ⟨⟨hb1, fun k e => e.elim (hT k) (fun e => absurd e (hR k)), .inl (World.ownsRow_nil _ _ _ _), fun k e => (by cases e), fun r hr => (by cases hr), fun r hr => (by cases hr), rfl⟩, ⟨hD, hT, fun k e => absurd e (hR k), Dsk.new_inv⟩, rfl, ⟨rfl, rfl, rfl⟩, ?_, fun r hr => (by cases hr), by simp⟩
    refine ⟨2, 0, false, 0, 0, [], ⟨.inr rfl, by rw [if_neg (by simp)]; exact ⟨rfl, nostate_nil, nostate_nil⟩⟩, Nat.le_refl _, Nat.le_refl _, Nat.le_refl _, Nat.le_refl _, by simp [Dsk.new, seg, logB], fun nx => no_stand_nil [] nx, .inl (Nat.le_refl _)⟩
  replace start := hid start
  clear hD hT hR
  go_wp2_with fail
  go_loopw [4, 5] (fun v iv wr => ∃ (i : Nat) (x : Dx) (d : Dsk) (M : List Rm) (all : List KB), i ≤ ln ∧ i ≤ 3 ∧ iv = .int .i64 (i : Int) ∧ Hid (Rest w.heap.size w wr p x d v M all i)) (fun _ iv _ => 3 - (intOf iv).toNat)
  case atStart => exact ⟨0, x0, Dsk.new, [], [], Nat.zero_le _, by omega, rfl, start⟩
  case round =>
    obtain ⟨i, x, d, M, all, hil, hi3, rfl, hR⟩ := hrel
    clear start
    obtain ⟨a, c, e, hac, _, hplace, hv0⟩ := hR.out.stay.row.form
    subst e
    by_cases hlt : i < ln
    · by_cases hi : i < 3
      · have hiL : i < Ls.length := by rw [hn.out]; exact hlt
        have hbel := hR.out.stay.bel
        obtain ⟨lb, lo, e, y0, y1, y2, y3, y4⟩ := (hL.out.below hbel).one hiL
        subst e
        obtain ⟨L, hLe⟩ : ∃ L, L = Ls[i] := ⟨_, rfl⟩
        rw [← hLe] at y0 y1 y2 y3 y4
        have hLm : L ∈ Ls := by rw [hLe]; exact List.getElem_mem hiL
        have hw1 := (hL.out.2 L hLm)
        replace hLe := hid hLe
        have hMl := allm_len hR.out.stay.is
        have hfew := hR.out.few
        have hbs : w.heap.size ≤ wr.heap.size := hbel.size
        have bl := below_lit wr (.cells #[.slice L.wa L.wl L.wc, .int .i64 L.arm, .int .i64 L.keep, .int .i64 L.torn, .int .i64 L.again] 75)
        have z1 := size_alloc wr (.cells #[.slice L.wa L.wl L.wc, .int .i64 L.arm, .int .i64 L.keep, .int .i64 L.torn, .int .i64 L.again] 75)
        obtain ⟨gb, go', ge, gc⟩ := cat_lit wr 75 [.slice L.wa L.wl L.wc, .int .i64 L.arm, .int .i64 L.keep, .int .i64 L.torn, .int .i64 L.again] _ rfl (by simp)
        cases ge
        have k1 := open_k w.heap.size p x d all all.length (wr.alloc (.cells #[.slice L.wa L.wl L.wc, .int .i64 L.arm, .int .i64 L.keep, .int .i64 L.torn, .int .i64 L.again] 75)) (hR.out.sole.below bl) (by omega) hR.out.free.1 hR.out.ops hR.out.good hR.out.small (by omega) stK_len
        obtain ⟨gx, hgx⟩ : ∃ gx, gx = wr.heap.size := ⟨_, rfl⟩
        obtain ⟨W1, hW1⟩ : ∃ W1, W1 = wr.alloc (.cells #[.slice L.wa L.wl L.wc, .int .i64 L.arm, .int .i64 L.keep, .int .i64 L.torn, .int .i64 L.again] 75) := ⟨_, rfl⟩
        have c0 := gc 0 (by simp)
        have c1 := gc 1 (by simp)
        have c2 := gc 2 (by simp)
        have c3 := gc 3 (by simp)
        have c4 := gc 4 (by simp)
        simp only [Nat.zero_add, List.getElem_cons_zero, List.getElem_cons_succ] at c0 c1 c2 c3 c4
        rw [← hgx, ← hW1] at c0 c1 c2 c3 c4
        rw [← hW1] at k1 bl z1
        have hgxT : ¬ Turn p x gx := fun ht => by have := hR.out.sole.is.1.turn_lt gx ht; omega
        clear gc
        replace hgx := hid hgx
        replace hW1 := hid hW1
        replace hw1 := hid hw1
        replace hMl := hid hMl
        go_wp2_with fail
        rw [← hgx.out, ← hW1.out]
        refine k1.mono ?_
        intro e W2 hO
        rcases hO with hO | ⟨_, _, _, hnf, _⟩
        · obtain ⟨gj, sa, sc, v2, x2, d2, f2, q2, m2, hv2, rs2, ra2, rc2, rfl, hJ2, hfr2, _, _, rfl, _, _, _, hlo2, hq2, hm2, hlife2, hops2, hfree2, hgrow2, hkp2⟩ := hO
          have hmx : max q2 m2 = all.length := by omega
          rw [hmx, List.take_length] at hlife2
          rw [hmx] at hJ2
          have bz2 := hkp2.size
          have stay2 : Stay w.heap.size w W2 (fun k => (Turn p x2 k ∨ Reads x2 k) ∨ k = gj) (.slice a M.length c) M all := (hR.out.stay.quiet bl hbs).step (T' := fun k => (Turn p x2 k ∨ Reads x2 k) ∨ k = gj) (hkp2.mono (fun k _ e => .inl e)) (fun k e => by
            rcases e with (e | e) | e
            · exact (hgrow2.1 k e).elim (fun e => .inl (.inl e)) .inr
            · exact (hgrow2.2 k e).elim (fun e => .inl (.inr e)) .inr
            · exact .inr (by omega)) (by omega)
          have wk2 : Work w.heap.size w W2 p gj gx x2 ⟨d2, all.length, all.length, f2, false⟩ L (.slice a M.length c) M all (30 * i) := by
            have hgxl : gx < W1.heap.size := by have := hgx.out; omega
            refine ⟨stay2, hJ2, hlife2, by omega, by simp only; rw [hops2]; simp, by simp only; omega, cell_kp hkp2 hgxT c0, cell_kp hkp2 hgxT c2, cell_kp hkp2 hgxT c3, cell_kp hkp2 hgxT c4, fun e => ?_, by omega, fun k e => (by have := (hR.out.stay.row.lt k e).2; have := hgx.out; omega), by omega⟩
            rcases hgrow2.1 gx e with h1 | h1
            · exact hgxT h1
            · omega
          have c12 := cell_kp hkp2 hgxT c1
          have kl := last_blk gj _ _ _ _ _ W2 hJ2.blk
          have hbel2 := stay2.bel
          simp only at kl
          clear c0 c1 c2 c3 c4 k1 hkp2 hgrow2 stay2
          replace hlife2 := hid hlife2
          replace wk2 := hid wk2
          replace hJ2 := hid hJ2
          replace hmx := hid hmx
          replace hR := hid hR
          replace hops2 := hid hops2
          generalize (if hv2 = true then stK q2 else []).length = BL2
          go_wp2_with fail
          rw [hMl.out]
          refine kl.mono ?_
          rintro e W3 ⟨rfl, hw3⟩
          rw [hw3]
          clear hw3
          clear W3
          go_wp2_with fail
          refine (pickk_any L.arm 50 _ (by omega) (by omega)).mono ?_
          rintro e W3 ⟨⟨ar, har, rfl⟩, hw3⟩
          rw [hw3]
          clear hw3
          clear W3
          have kArm := arm_sole w.heap.size p x2 d2 ar W2 hJ2.out.disk (Nat.le_trans hbel2.size (Nat.le_refl _)) (by omega)
          go_wp2_with fail
          refine kArm.mono ?_
          rintro e W3 ⟨rfl, x3, s3, g3, k3⟩
          have jn3 : JNow w.heap.size W2 W3 gj p x2 ⟨{ d2 with arm := (ar : Int) }, all.length, all.length, f2, false⟩ := hJ2.out.turn (Below.refl _ _) s3 g3 k3 (Kp.refl _ _) (hJ2.out.blk.kp k3 hJ2.out.sepT) hJ2.out.big
          obtain ⟨x4, wk4⟩ := wk2.out.now (n' := 30 * i) hbel2.size jn3 (hlife2.out.armed (by omega)) (by simp only; rw [hops2.out]; simp) (by simp only; omega) (Nat.le_refl _)
          rw [hMl.out] at wk4
          have hb4 := wk4.stay.bel
          replace wk4 := hid wk4
          clear kArm jn3 s3 g3 k3 wk2 hlife2 hJ2 kl c12
          go_wp2_with fail
          go_loopw [4, 11] (fun v kv wr2 => ∃ (k : Nat) (x5 : Dx) (j5 : Jr) (M5 : List Rm) (all5 : List KB), k ≤ L.wl ∧ k ≤ 30 ∧ kv = .int .i64 (k : Int) ∧ Hid (Work w.heap.size w wr2 p gj gx x5 j5 L v M5 all5 (30 * i + k))) (fun _ kv _ => 30 - (intOf kv).toNat)
          case atStart => exact ⟨0, x4, _, M, all, Nat.zero_le _, by omega, rfl, wk4⟩
          case round =>
            obtain ⟨k, x5, j5, M5, all5, hkl, hk30, rfl, hW⟩ := hrel
            clear wk4
            obtain ⟨a5, c5, e5, hac5, _, hplace5, hv05⟩ := hW.out.stay.row.form
            subst e5
            have hbel5 := hW.out.stay.bel
            have hbs5 := hbel5.size
            have hMl5 := allm_len hW.out.stay.is
            have hfew5 := hW.out.few
            have hM90 : M5.length ≤ 1000 := by omega
            have l0 := hW.out.l0
            by_cases hklt : k < L.wl
            · by_cases hk3 : k < 30
              · have hkw : k < L.ws.length := by rw [hw1.out.1]; exact hklt
                obtain ⟨ib, io, ie, iy⟩ := ints_at (hw1.out.2.2.below hbel5) hkw
                rw [ie] at l0
                have hLl := hw1.out.2.1
                obtain ⟨WK, hWK⟩ : ∃ WK, WK = L.ws[k] := ⟨_, rfl⟩
                rw [← hWK] at iy
                replace hWK := hid hWK
                replace ie := hid ie
                replace hMl5 := hid hMl5
                have hlle := hW.out.lle
                have hops5 := hW.out.ops
                go_wp2_with fail
                refine (pickk_any WK 1000003 _ (by omega) (by omega)).mono ?_
                rintro e W6 ⟨⟨P, hP, rfl⟩, hw6⟩
                rw [hw6]
                clear hw6
                clear W6
                by_cases h7 : (P : Int) % 7 = 0
                · have e7 : ((P : Int) % 7 == 0) = true := by rw [h7]; rfl
                  have kl := last_blk gj _ _ _ _ _ wr hW.out.jis.blk
                  replace h7 := hid h7
                  go_wp2_with fail
                  refine kl.mono ?_
                  rintro e W6 ⟨rfl, hw6⟩
                  rw [hw6]
                  clear hw6
                  clear W6
                  go_wp2_with fail
                  refine (state_any j5.l wr (by omega)).mono ?_
                  rintro e W6 ⟨ta, tc, rfl, htc, htat, hb6⟩
                  have wk6 := hW.out.quiet hbs5 hb6
                  have kSn := snapshot_j w.heap.size gj p x5 j5 ta (stK j5.l).length tc (stK j5.l) W6 wk6.jis (Nat.le_trans hbs5 hb6.size) (by omega) rfl htat
                  have hlife := hW.out.life.snap stK_len
                  obtain ⟨f1, f2'⟩ := j5.sn_few (stK j5.l)
                  generalize hJN : j5.sn (stK j5.l) = JN at *
                  generalize j5.snE (stK j5.l) = EN at *
                  replace hJN := hid hJN
                  replace wk6 := hid wk6
                  replace hlife := hid hlife
                  replace htat := hid htat
                  go_wp2_with fail
                  refine kSn.mono ?_
                  rintro e W7 ⟨rfl, hjn⟩
                  obtain ⟨x7, wk7⟩ := wk6.out.now (n' := 30 * i + (k + 1)) (Nat.le_trans hbs5 hb6.size) hjn hlife.out (by omega) (by omega) (by omega)
                  replace wk7 := hid wk7
                  clear kSn hjn
                  go_wp2_with fail
                  go_roundw
                  case rel => exact ⟨k + 1, x7, JN, M5, all5, by omega, by omega, by go_num, wk7⟩
                  case measure => simp [intOf]; omega
                · have e7 : ((P : Int) % 7 == 0) = false := beq_eq_false_iff_ne.2 h7
                  by_cases h3 : (P : Int) % 7 < 3
                  · have e3 : decide ((P : Int) % 7 < 3) = true := decide_eq_true h3
                    have kSy := sync_j w.heap.size gj p x5 j5 wr hW.out.jis hbs5 (by omega)
                    have hlife := hW.out.life.sync
                    obtain ⟨f1, f2'⟩ := j5.sy_few
                    generalize hJN : j5.sy = JN at *
                    generalize j5.syE = EN at *
                    replace hJN := hid hJN
                    replace hlife := hid hlife
                    replace h7 := hid h7
                    replace h3 := hid h3
                    go_wp2_with fail
                    refine kSy.mono ?_
                    rintro e W7 ⟨rfl, hjn⟩
                    obtain ⟨x7, wk7⟩ := hW.out.now (n' := 30 * i + (k + 1)) hbs5 hjn hlife.out (by omega) (by omega) (by omega)
                    replace wk7 := hid wk7
                    clear kSy hjn
                    go_wp2_with fail
                    go_roundw
                    case rel => exact ⟨k + 1, x7, JN, M5, all5, by omega, by omega, by go_num, wk7⟩
                    case measure => simp [intOf]; omega
                  · have e3 : decide ((P : Int) % 7 < 3) = false := decide_eq_false h3
                    replace h7 := hid h7
                    replace h3 := hid h3
                    obtain ⟨R, hRR⟩ : ∃ R : Nat, R = P / 7 % 60 := ⟨_, rfl⟩
                    have hR60 : R < 60 := by omega
                    have kM := made_fun (P : Int) R wr (by omega)
                    have eR : (P : Int) / 7 % 60 = (R : Int) := by omega
                    obtain ⟨KK, hKK⟩ : ∃ KK : UInt8, KK = UInt8.ofNat (P % 255) := ⟨_, rfl⟩
                    have hK8 : (KK.toNat : Int) = (P : Int) % 255 := by rw [hKK, UInt8.toNat_ofNat']; omega
                    have hKn : KK ≠ 255 := fun e => by
                      have := congrArg UInt8.toNat e
                      rw [hKK, UInt8.toNat_ofNat'] at this
                      have h255 : (255 : UInt8).toNat = 255 := rfl
                      omega
                    replace hRR := hid hRR
                    replace hKK := hid hKK
                    go_wp2_with fail
                    refine kM.mono ?_
                    rintro e W6 ⟨g6, rfl, hg6, hrow6, hb6⟩
                    replace eR := hid eR
                    have hbs6 := Nat.le_trans hbs5 hb6.size
                    have wk6 := hW.out.quiet hbs5 hb6
                    have hrl6 := hrow6.lt
                    have hbl6 := below_lit W6 (.cells #[.int .i64 ((M5.length : Int) + 1), .int .u8 ((P : Int) % 255), .slice (some ⟨g6, 0, none⟩) R R] 27)
                    obtain ⟨gb6, go6, ge6, gc6⟩ := cat_lit W6 27 [.int .i64 ((M5.length : Int) + 1), .int .u8 ((P : Int) % 255), .slice (some ⟨g6, 0, none⟩) R R] #[.int .i64 ((M5.length : Int) + 1), .int .u8 ((P : Int) % 255), .slice (some ⟨g6, 0, none⟩) R R] rfl (by simp)
                    cases ge6
                    have q60 := gc6 0 (by simp)
                    have q61 := gc6 1 (by simp)
                    have q62 := gc6 2 (by simp)
                    simp only [Nat.zero_add, List.getElem_cons_zero, List.getElem_cons_succ] at q60 q61 q62
                    have wk7 := wk6.quiet hbs6 hbl6
                    have hrow7 := hrow6.at.below hbl6
                    have z7 := size_alloc W6 (.cells #[.int .i64 ((M5.length : Int) + 1), .int .u8 ((P : Int) % 255), .slice (some ⟨g6, 0, none⟩) R R] 27)
                    have hml := madeL_len (P : Int) R
                    obtain ⟨ML, hML⟩ : ∃ ML, ML = madeL (P : Int) R := ⟨_, rfl⟩
                    rw [← hML] at hrow7 hml
                    have kAp := append_j w.heap.size gj p x5 j5 KK (some ⟨g6, 0, none⟩) R R ML (W6.alloc (.cells #[.int .i64 ((M5.length : Int) + 1), .int .u8 ((P : Int) % 255), .slice (some ⟨g6, 0, none⟩) R R] 27)) wk7.jis (by omega) (by omega) hml hrow7
                    rw [hK8] at kAp
                    have hlife := hW.out.life.append KK ML (by omega) hKn (by omega)
                    obtain ⟨f1, f2'⟩ := j5.ap_few KK ML
                    have hg6J : g6 ≠ gj := fun e => by have := hW.out.jis.blk.lt; omega
                    have hg6T : ¬ Turn p x5 g6 := fun e => by have := hW.out.jis.disk.is.1.turn_lt g6 e; omega
                    have hg6v : (Value.slice a5 M5.length c5).ownBlock ≠ some g6 := fun e => by have := (hW.out.stay.row.lt g6 e).2; omega
                    clear gc6
                    generalize hJN : j5.ap KK ML = JN at *
                    generalize j5.apE KK ML = EN at *
                    generalize j5.apN KK ML = NN at *
                    replace hJN := hid hJN
                    replace hML := hid hML
                    replace hlife := hid hlife
                    replace hrow7 := hid hrow7
                    replace hrow6 := hid hrow6
                    replace wk7 := hid wk7
                    replace wk6 := hid wk6
                    replace hKn := hid hKn
                    replace hK8 := hid hK8
                    go_wp2_with fail
                    refine kAp.mono ?_
                    rintro e W8 ⟨rfl, hjn⟩
                    by_cases hEN : EN = 0
                    · subst hEN
                      obtain ⟨hNN, hlf⟩ := hlife.out.1 rfl
                      subst hNN
                      obtain ⟨x8, hJ8, hg8, hk8⟩ := hjn
                      obtain ⟨gr7, hgr7⟩ : ∃ gr7, gr7 = W6.heap.size := ⟨_, rfl⟩
                      rw [← hgr7] at q60 q61 q62
                      have ngr : ¬ (Turn p x5 gr7 ∨ gr7 = gj) := fun e => by
                        rcases e with e | e
                        · have := hW.out.jis.disk.is.1.turn_lt gr7 e; have := hb6.size; omega
                        · have := hW.out.jis.blk.lt; have := hb6.size; omega
                      have r0 := cell_kp hk8 ngr q60
                      have r1 := cell_kp hk8 ngr q61
                      have r2 := cell_kp hk8 ngr q62
                      have hgT : ∀ k, ((Turn p x8 k ∨ Reads x8 k) ∨ k = gj) → ((Turn p x5 k ∨ Reads x5 k) ∨ k = gj) ∨ (W6.alloc (.cells #[.int .i64 ((M5.length : Int) + 1), .int .u8 ((P : Int) % 255), .slice (some ⟨g6, 0, none⟩) R R] 27)).heap.size ≤ k := fun k e => by
                        rcases e with (e | e) | e
                        · exact (hg8.1 k e).elim (fun e => .inl (.inl (.inl e))) .inr
                        · exact (hg8.2 k e).elim (fun e => .inl (.inl (.inr e))) .inr
                        · exact .inl (.inr e)
                      have stay8 := wk7.out.stay.step (T' := fun k => (Turn p x8 k ∨ Reads x8 k) ∨ k = gj) (hk8.mono (fun k _ e => e.elim (fun e => .inl (.inl e)) .inr)) hgT (by omega)
                      have hbs8 := stay8.bel.size
                      have bl9 := below_lit W8 (.cells #[.int .i64 ((M5.length : Int) + 1), .int .u8 ((P : Int) % 255), .slice (some ⟨g6, 0, none⟩) R R] 27)
                      have stay9 := stay8.quiet bl9 hbs8
                      have hJ9 := hJ8.below bl9
                      have hcat9 := hid (cat_lit W8 27 [.int .i64 ((M5.length : Int) + 1), .int .u8 ((P : Int) % 255), .slice (some ⟨g6, 0, none⟩) R R] #[.int .i64 ((M5.length : Int) + 1), .int .u8 ((P : Int) % 255), .slice (some ⟨g6, 0, none⟩) R R] rfl)
                      have g6T8 : ¬ ((Turn p x8 g6 ∨ Reads x8 g6) ∨ g6 = gj) := fun e => by
                        rcases hgT g6 e with (e | e) | e
                        · rcases e with e | e
                          · exact hg6T e
                          · have := hW.out.jis.disk.is.1.reads_lt g6 e; omega
                        · exact hg6J e
                        · omega
                      have hbody9 : At (W8.alloc (.cells #[.int .i64 ((M5.length : Int) + 1), .int .u8 ((P : Int) % 255), .slice (some ⟨g6, 0, none⟩) R R] 27)) (some ⟨g6, 0, none⟩) ML := (hrow7.out.kp hk8 (fun ad e => by cases e; exact fun e => e.elim hg6T hg6J)).below bl9
                      have hk8z := hk8.size
                      have row9 := hid stay9.row
                      have jlt := hJ9.disk.is.1.turn_lt
                      have jrt := hJ9.disk.is.1.reads_lt
                      have jbt := hJ9.blk.lt
                      have z9 := size_alloc W8 (.cells #[.int .i64 ((M5.length : Int) + 1), .int .u8 ((P : Int) % 255), .slice (some ⟨g6, 0, none⟩) R R] 27)
                      have m0 := cell_kp hk8 (fun e => e.elim wk7.out.offT wk7.out.offJ) wk7.out.l0
                      have m2 := cell_kp hk8 (fun e => e.elim wk7.out.offT wk7.out.offJ) wk7.out.l2
                      have m3 := cell_kp hk8 (fun e => e.elim wk7.out.offT wk7.out.offJ) wk7.out.l3
                      have m4 := cell_kp hk8 (fun e => e.elim wk7.out.offT wk7.out.offJ) wk7.out.l4
                      replace stay9 := hid stay9
                      replace stay8 := hid stay8
                      replace hJ9 := hid hJ9
                      replace hJ8 := hid hJ8
                      replace hlf := hid hlf
                      replace hbody9 := hid hbody9
                      replace jlt := hid jlt
                      replace jrt := hid jrt
                      replace hgT := hid hgT
                      replace m0 := hid m0
                      replace m2 := hid m2
                      replace m3 := hid m3
                      replace m4 := hid m4
                      replace g6T8 := hid g6T8
                      rw [← hgr7]
                      replace hgr7 := hid hgr7
                      go_wp2_with (at_builtin; refine Hid.out ?_)
                      refine wpList_all _ rfl (.tmp 101) (.tmp 103) rfl w.heap.size i27 _ hi27 z270 z271 z272 rfl _ _ _ rfl row9.out ⟨W8.heap.size, 0, none⟩ [.int .i64 ((M5.length : Int) + 1), .int .u8 ((P : Int) % 255), .slice (some ⟨g6, 0, none⟩) R R] rfl rfl hcat9.out (by intro u hu; simp at hu; rcases hu with rfl | rfl | rfl <;> rfl) (by omega) (by omega) ?_
                      intro v' W10 ho10 hg10 hv10
                      have hk10 := Kp.grown hg10
                      have rowT9 := stay9.out.rowT
                      have hpl : (Rm.mk ((M5.length : Int) + 1) ((P : Int) % 255) ML (some ⟨g6, 0, none⟩) R).plain = (((all5.length + 1 : Nat) : Int), ((KK, ML).1.toNat : Int), (KK, ML).2) := by
                        unfold Rm.plain
                        simp only [hK8.out]
                        rw [hMl5.out]
                        rfl
                      have stay10 := stay9.out.push (r := ⟨(M5.length : Int) + 1, (P : Int) % 255, ML, some ⟨g6, 0, none⟩, R⟩) (kb := (KK, ML)) (by omega) (fun k e => by
                        rcases e with (e | e) | e
                        · exact jlt.out k e
                        · exact jrt.out k e
                        · subst e; exact jbt) (by
                        have : (Rm.mk ((M5.length : Int) + 1) ((P : Int) % 255) ML (some ⟨g6, 0, none⟩) R).cells = [.int .i64 ((M5.length : Int) + 1), .int .u8 ((P : Int) % 255), .slice (some ⟨g6, 0, none⟩) R R] := by
                          unfold Rm.cells
                          simp only [hml]
                        rw [this]
                        exact ho10) hg10 hv10 hbody9.out (fun ad e => by
                        cases e
                        exact ⟨g6T8.out, by simp only; omega, hg6v⟩) hpl
                      have hJ10 := hJ9.out.kp hk10 (fun k e => ⟨fun e2 => rowT9 k e (.inl (.inl e2)), fun e2 => rowT9 k e (.inl (.inr e2)), fun e2 => rowT9 k e (.inr e2)⟩)
                      have hgxr : ¬ (Value.slice a5 M5.length c5).ownBlock = some gx := fun e => hW.out.offR gx e rfl
                      have hgxl := World.block_lt_of_cell? _ _ wk7.out.l0
                      simp only at hgxl
                      have wk10 : Work w.heap.size w W10 p gj gx x8 JN L v' (M5 ++ [⟨(M5.length : Int) + 1, (P : Int) % 255, ML, some ⟨g6, 0, none⟩, R⟩]) (all5 ++ [(KK, ML)]) (30 * i + (k + 1)) := by
                        refine ⟨stay10, hJ10, hlf.out, by rw [List.length_append]; simp; omega, by omega, by omega, cell_kp hk10 hgxr (cell_b bl9 m0.out), cell_kp hk10 hgxr (cell_b bl9 m2.out), cell_kp hk10 hgxr (cell_b bl9 m3.out), cell_kp hk10 hgxr (cell_b bl9 m4.out), fun e => ?_, wk7.out.offJ, fun k e => ?_, wk7.out.big⟩
                        · rcases hg8.1 gx e with h4 | h4
                          · exact wk7.out.offT h4
                          · omega
                        · rcases hv10 with h5 | h5
                          · rw [h5] at e; exact hW.out.offR k e
                          · rw [h5] at e; cases e; omega
                      obtain ⟨a10, c10, e10, hac10, _⟩ := stay10.row.form
                      subst e10
                      have hl10 : (M5 ++ [(⟨(M5.length : Int) + 1, (P : Int) % 255, ML, some ⟨g6, 0, none⟩, R⟩ : Rm)]).length = M5.length + 1 := by simp
                      rw [hl10] at wk10 ⊢
                      replace wk10 := hid wk10
                      clear stay10 hJ10 ho10 hg10 hv10 hk10 hl10
                      have hnl : ((all5.length + 1 : Nat) : Int) = (M5.length : Int) + 1 := by rw [hMl5.out]; rfl
                      go_wp2_with fail
                      go_roundw
                      case rel => exact ⟨k + 1, x8, JN, _, _, by omega, by omega, by go_num, wk10⟩
                      case measure => simp [intOf]; omega
                    · have hEb : (EN == 0) = false := by simpa using hEN
                      have hlf := hlife.out.2 hEN
                      obtain ⟨x8, wk8⟩ := wk7.out.now (n' := 30 * i + (k + 1)) (by omega) hjn hlf (by omega) (by omega) (by omega)
                      replace wk8 := hid wk8
                      clear kAp hjn
                      replace hEN := hid hEN
                      go_wp2_with fail
                      go_roundw
                      case rel => exact ⟨k + 1, x8, JN, M5, all5, by omega, by omega, by go_num, wk8⟩
                      case measure => simp [intOf]; omega
              · have hMl5' := hMl5
                have kSy := synced_blk gj _ _ _ _ _ wr hW.out.jis.blk
                have dsk := hid hW.out.jis.disk
                have m2 := hid hW.out.l2
                have m3 := hid hW.out.l3
                have m4 := hid hW.out.l4
                have hops5 := hW.out.ops
                have hlife5 := hid hW.out.life
                have hcel : ∀ (w2 : World) (LL : Nat → Bool), (if LL 7 = true then (∃ (x6 : Dx) (kp tp : Nat), Sole w.heap.size w2 p x6 (j5.d.crashD (kp : Int) (tp : Int)) ∧ Grow wr p x5 x6 ∧ Kp (Turn p x5) wr w2) else Below wr.heap.size wr w2) → ∀ (o : Nat) (u : Value), wr.cell? ⟨gx, o, none⟩ = some u → w2.cell? ⟨gx, o, none⟩ = some u := fun w2 LL h o u hu => by
                  split at h
                  · obtain ⟨_, _, _, _, _, h⟩ := h
                    exact cell_kp h hW.out.offT hu
                  · exact cell_b h hu
                replace hcel := hid hcel
                replace hMl5 := hid hMl5
                clear hMl5'
                go_wp2_with fail
                refine kSy.mono ?_
                rintro e W6 ⟨rfl, hw6⟩
                rw [hw6]
                clear hw6
                clear W6
                go_wp2_with fail
                refine wp_region_all (Wd := fun LL w2 => if LL 7 = true then (∃ (x6 : Dx) (kp tp : Nat), Sole w.heap.size w2 p x6 (j5.d.crashD (kp : Int) (tp : Int)) ∧ Grow wr p x5 x6 ∧ Kp (Turn p x5) wr w2) else Below wr.heap.size wr w2) (Pv := pv25 p gx L.keep L.torn) (by kernel_rfl) (by kernel_rfl) ?_ ?_ ?_
                · intro LL hL
                  try dsimp only
                  rw [hL 7, if_neg (by simp)]
                  exact drew_below wr
                · refine ⟨?_, ?_, ?_, ?_, ?_, ?_, ?_, ?_, ?_, trivial⟩
                  · intro ac w2 LL hL hup hWd hd hk K hK
                    exact yes (want_n rfl) (wp_mv _ rfl _ (get_keep (hk 3 (no_dst (by kernel_rfl))) rfl) (hK _ w2 (fun _ => rfl) (fun L' h1 h3 => by dsimp only; rw [h3 7 (by decide)]; exact hWd)))
                  · intro ac w2 LL hL hup hWd hd hk K hK
                    have e6 : ac.tmps[6]?.getD undef = (.pointer (some ⟨gx, 0, none⟩) : Value) := slot (get_keep (hk 6 (no_dst (by kernel_rfl))) rfl)
                    refine yes (want_n rfl) ?_
                    have hv := hid (hK (.pointer (some ⟨gx, 2, none⟩)) w2 (fun _ => rfl) (fun L' h1 h3 => by dsimp only; rw [h3 7 (by decide)]; exact hWd))
                    clear hK hWd hL hup hd hk
                    go_simp
                    exact kq3 hv.out rfl
                  · intro ac w2 LL hL hup hWd hd hk K hK
                    have e131 : ac.tmps[131]?.getD undef = (.pointer (some ⟨gx, 2, none⟩) : Value) := slot (hd 1 _ 131 rfl rfl rfl)
                    have y0 := hcel.out w2 _ hWd 2 _ m2.out
                    refine yes (want_n rfl) ?_
                    have hv := hid (hK (.int .i64 L.keep) w2 (fun _ => rfl) (fun L' h1 h3 => by dsimp only; rw [h3 7 (by decide)]; exact hWd))
                    clear hK hWd hL hup hd hk
                    go_simp
                    exact kq3 hv.out rfl
                  · intro ac w2 LL hL hup hWd hd hk K hK
                    exact yes (want_n rfl) (wp_callv 35 _ _ rfl _ Try.func35 rfl rfl _ (args2 (hd 2 _ 132 rfl rfl rfl) rfl) (pickk_any L.keep 40 w2 (by omega) (by omega)) (by rintro e w3 ⟨⟨pn, _, rfl⟩, rfl⟩; exact ⟨_, rfl, hK _ w3 (fun _ => ⟨pn, rfl⟩) (fun L' h1 h3 => by dsimp only; rw [h3 7 (by decide)]; exact hWd)⟩))
                  · intro ac w2 LL hL hup hWd hd hk K hK
                    have e6 : ac.tmps[6]?.getD undef = (.pointer (some ⟨gx, 0, none⟩) : Value) := slot (get_keep (hk 6 (no_dst (by kernel_rfl))) rfl)
                    refine yes (want_n rfl) ?_
                    have hv := hid (hK (.pointer (some ⟨gx, 3, none⟩)) w2 (fun _ => rfl) (fun L' h1 h3 => by dsimp only; rw [h3 7 (by decide)]; exact hWd))
                    clear hK hWd hL hup hd hk
                    go_simp
                    exact kq3 hv.out rfl
                  · intro ac w2 LL hL hup hWd hd hk K hK
                    have e134 : ac.tmps[134]?.getD undef = (.pointer (some ⟨gx, 3, none⟩) : Value) := slot (hd 4 _ 134 rfl rfl rfl)
                    have y0 := hcel.out w2 _ hWd 3 _ m3.out
                    refine yes (want_n rfl) ?_
                    have hv := hid (hK (.int .i64 L.torn) w2 (fun _ => rfl) (fun L' h1 h3 => by dsimp only; rw [h3 7 (by decide)]; exact hWd))
                    clear hK hWd hL hup hd hk
                    go_simp
                    exact kq3 hv.out rfl
                  · intro ac w2 LL hL hup hWd hd hk K hK
                    exact yes (want_n rfl) (wp_callv 35 _ _ rfl _ Try.func35 rfl rfl _ (args2 (hd 5 _ 135 rfl rfl rfl) rfl) (pickk_any L.torn 80 w2 (by omega) (by omega)) (by rintro e w3 ⟨⟨pn, _, rfl⟩, rfl⟩; exact ⟨_, rfl, hK _ w3 (fun _ => ⟨pn, rfl⟩) (fun L' h1 h3 => by dsimp only; rw [h3 7 (by decide)]; exact hWd)⟩))
                  · intro ac w2 LL hL hup hWd hd hk K hK
                    try dsimp only at hWd
                    rw [hL, if_neg (by simp)] at hWd
                    obtain ⟨kp, hkp⟩ := hd 3 _ 133 rfl rfl rfl
                    obtain ⟨tp, htp⟩ := hd 6 _ 136 rfl rfl rfl
                    have hcf := crash_free j5.d kp tp
                    exact yes (want_n rfl) (wp_callv 38 _ _ rfl _ Try.func38 rfl rfl _ (args3k (hd 0 _ 130 rfl rfl rfl) hkp htp) (crash_sole w.heap.size p x5 j5.d _ (kp : Int) (tp : Int) 0 w2 (dsk.out.below hWd) (Nat.le_trans hbs5 hWd.size) (by omega) hcf.2.2.1 rfl) (by
                      rintro e w3 ⟨rfl, x6, t1, t2, t3⟩
                      refine ⟨_, rfl, hK _ w3 (fun _ => rfl) (fun L' h1 h3 => ?_)⟩
                      try dsimp only
                      rw [h1, if_pos rfl]
                      exact ⟨x6, kp, tp, t1, t2.low hWd.size, (Kp.of_below hWd).trans t3⟩))
                  · intro ac w2 LL hL hup hWd hd hk K hK
                    have e137 : ac.tmps[137]?.getD undef = (.int .i64 0 : Value) := slot (hd 7 _ 137 rfl rfl rfl)
                    refine yes (want_n rfl) ?_
                    have hv := hid (hK (.bool false) w2 (fun _ => rfl) (fun L' h1 h3 => by dsimp only; rw [h3 7 (by decide)]; exact hWd))
                    clear hK hWd hL hup hd hk
                    go_simp
                    exact kq3 hv.out rfl
                · intro ac W7 hdf hsz hkp hval hWd
                  obtain ⟨LL, hall7, hWd⟩ := hWd
                  try dsimp only at hWd
                  rw [hall7 7 (by decide), if_pos rfl] at hWd
                  obtain ⟨x6, kp, tp, sC, gC, kC⟩ := hWd
                  have q138 : ac.tmps.getD 138 undef = (.bool false : Value) := hval 8 _ 138 rfl rfl
                  obtain ⟨ff, hf⟩ : ∃ ff, ff = fun d => ac.tmps.getD d undef := ⟨_, rfl⟩
                  have h138 : ff 138 = (.bool false : Value) := by rw [hf]; exact q138
                  have hfa := act_filled hdf hsz hkp
                  rw [← hf] at hfa
                  rw [hfa]
                  clear hdf hsz hkp hval hfa hf q138
                  clear ac
                  simp only [fillAll, List.set_cons_zero, List.set_cons_succ, h138]
                  clear h138
                  obtain ⟨fC, oC, _, cC⟩ := crash_free j5.d kp tp
                  have goodC : Good stK (j5.d.crashD (kp : Int) (tp : Int)).cur all5 j5.s := by rw [cC]; exact hlife5.out.outs kp tp
                  have stay7 : Stay w.heap.size w W7 (fun k => Turn p x6 k ∨ Reads x6 k) (.slice a5 M5.length c5) M5 all5 := hW.out.stay.step (kC.mono (fun k _ e => .inl (.inl e))) (fun k e => by
                    rcases e with e | e
                    · exact (gC.1 k e).elim (fun e => .inl (.inl (.inl e))) .inr
                    · exact (gC.2 k e).elim (fun e => .inl (.inl (.inr e))) .inr) hbs5
                  have hbs7 := stay7.bel.size
                  have n3 := cell_kp kC hW.out.offT m3.out
                  have n4 := cell_kp kC hW.out.offT m4.out
                  have hgl7 := World.block_lt_of_cell? _ _ n3
                  simp only at hgl7
                  have hgx6 : ¬ Turn p x6 gx := fun e => by
                    rcases gC.1 gx e with h4 | h4
                    · exact hW.out.offT h4
                    · have := World.block_lt_of_cell? _ _ m3.out; simp only at this; omega
                  generalize j5.d.crashD (kp : Int) (tp : Int) = dC at *
                  replace stay7 := hid stay7
                  replace sC := hid sC
                  replace goodC := hid goodC
                  replace fC := hid fC
                  replace oC := hid oC
                  clear cC gC kC hcel
                  go_wp2_with fail
                  refine (pickk_any L.again 3 _ (by omega) (by omega)).mono ?_
                  rintro e W6 ⟨⟨ag, hag, rfl⟩, hw6⟩
                  rw [hw6]
                  clear hw6
                  clear W6
                  have kArm := arm_sole w.heap.size p x6 dC ag W7 sC.out hbs7 (by omega)
                  go_wp2_with fail
                  refine kArm.mono ?_
                  rintro e W8 ⟨rfl, x7, s7, g7, k7⟩
                  have kz7 := k7.size
                  have kO := open_k (st := stK) w.heap.size p x7 { dC with arm := (ag : Int) } all5 j5.s W8 s7 (by omega) fC.out.1 oC.out goodC.out hlife5.out.small (by omega) stK_len
                  have stay8 : Stay w.heap.size w W8 (fun k => Turn p x7 k ∨ Reads x7 k) (.slice a5 M5.length c5) M5 all5 := stay7.out.step (k7.mono (fun k _ e => .inl e)) (fun k e => by
                    rcases e with e | e
                    · exact (g7.1 k e).elim (fun e => .inl (.inl e)) .inr
                    · exact (g7.2 k e).elim (fun e => .inl (.inr e)) .inr) hbs7
                  have hgx7 : ¬ Turn p x7 gx := fun e => by
                    rcases g7.1 gx e with h4 | h4
                    · exact hgx6 h4
                    · omega
                  have n38 := cell_kp k7 hgx6 n3
                  have hbs8 := stay8.bel.size
                  replace stay8 := hid stay8
                  clear kArm s7 g7 k7
                  go_wp2_with fail
                  refine kO.mono ?_
                  intro e W9 hO
                  obtain ⟨V9, x8, d8, rfl, s9, few9, out9, g9, k9⟩ : ∃ (V9 : Value) (x8 : Dx) (d8 : Dsk), e = .returned V9 ∧ Sole w.heap.size W9 p x8 d8 ∧ d8.ops.length ≤ 10 ∧ Outs stK d8 all5 j5.s ∧ Grow W8 p x7 x8 ∧ Kp (Turn p x7) W8 W9 := by
                    rcases hO with ⟨gj', sa', sc', v', x', d', f', q', m', hv', rs', ra', rc', rfl, hJ', _, _, _, _, _, _, _, hlo', hq', hm', hlf', hop', _, hg', hk'⟩ | ⟨E', x', d', _, rfl, hs', ho', hop', hg', hk'⟩
                    · refine ⟨_, x', d', rfl, hJ'.disk, by rw [hop']; simp, fun kk tt => ?_, hg', hk'⟩
                      have := hlf'.outs kk tt
                      exact (this.wide (by omega)).less hlo'
                    · exact ⟨_, x', d', rfl, hs', hop', ho', hg', hk'⟩
                  clear hO kO
                  have kz9 := k9.size
                  have stay9 : Stay w.heap.size w W9 (fun k => Turn p x8 k ∨ Reads x8 k) (.slice a5 M5.length c5) M5 all5 := stay8.out.step (k9.mono (fun k _ e => .inl e)) (fun k e => by
                    rcases e with e | e
                    · exact (g9.1 k e).elim (fun e => .inl (.inl e)) .inr
                    · exact (g9.2 k e).elim (fun e => .inl (.inr e)) .inr) hbs8
                  have n39 := cell_kp k9 hgx7 n38
                  have hbs9 := stay9.bel.size
                  replace stay9 := hid stay9
                  replace out9 := hid out9
                  replace s9 := hid s9
                  clear g9 k9
                  go_wp2_with fail
                  refine (pickk_any L.torn 3 _ (by omega) (by omega)).mono ?_
                  rintro e W6 ⟨⟨k2, hk2, rfl⟩, hw6⟩
                  rw [hw6]
                  clear hw6
                  clear W6
                  obtain ⟨fD, oD, eD, cD⟩ := crash_free d8 k2 0
                  have kCr := crash_sole w.heap.size p x8 d8 _ (k2 : Int) ((0 : Nat) : Int) 0 W9 s9.out hbs9 (by omega) eD rfl
                  have goodD : Good stK (d8.crashD (k2 : Int) ((0 : Nat) : Int)).cur all5 j5.s := by rw [cD]; exact out9.out k2 0
                  generalize d8.crashD (k2 : Int) ((0 : Nat) : Int) = dD at *
                  replace fD := hid fD
                  replace oD := hid oD
                  replace goodD := hid goodD
                  clear eD cD
                  go_wp2_with fail
                  refine kCr.mono ?_
                  rintro e W10 ⟨rfl, x9, s10, g10, k10⟩
                  have stay10 : Stay w.heap.size w W10 (fun k => Turn p x9 k ∨ Reads x9 k) (.slice a5 M5.length c5) M5 all5 := stay9.out.step (k10.mono (fun k _ e => .inl e)) (fun k e => by
                    rcases e with e | e
                    · exact (g10.1 k e).elim (fun e => .inl (.inl e)) .inr
                    · exact (g10.2 k e).elim (fun e => .inl (.inr e)) .inr) hbs9
                  have hbs10 := stay10.bel.size
                  have kO := open_k (st := stK) w.heap.size p x9 dD all5 j5.s W10 s10 hbs10 fD.out.1 oD.out goodD.out hlife5.out.small (by omega) stK_len
                  replace stay10 := hid stay10
                  clear kCr g10 k10 s10
                  go_wp2_with fail
                  refine kO.mono ?_
                  intro e W11 hO
                  rcases hO with hO | ⟨_, _, _, hnf, _⟩
                  · obtain ⟨gj3, sa3, sc3, v3, x11, d11, f3, q3, m3', hv3, rs3, ra3, rc3, rfl, hJ11, _, hown3, hq03, rfl, _, hrat3, hpl3, hlo3, hq3, hm3', hlf3, hops11, hfree11, hg11, hk11⟩ := hO
                    have stay11 : Stay w.heap.size w W11 (fun k => Turn p x11 k ∨ Reads x11 k) (.slice a5 M5.length c5) M5 all5 := stay10.out.step (hk11.mono (fun k _ e => .inl e)) (fun k e => by
                      rcases e with e | e
                      · exact (hg11.1 k e).elim (fun e => .inl (.inl e)) .inr
                      · exact (hg11.2 k e).elim (fun e => .inl (.inr e)) .inr) hbs10
                    have hbs11 := stay11.bel.size
                    have hl5 := hMl5.out
                    obtain ⟨a11, c11, e11, hac11, _, hplace11, hv11⟩ := stay11.row.form
                    simp only [Value.slice.injEq] at e11
                    obtain ⟨rfl, _, rfl⟩ := e11
                    have kRt := right_k all5 M5 rs3 a5 sa3 ra3 c5 sc3 rc3 q3 m3' hv3 W11 stay11.is (stay11.rat rfl) (fun ad e => by obtain ⟨g, h1, _⟩ := hplace11 ad e; exact ⟨g, h1⟩) (by omega) hv11 hown3.at hq03 hrat3 hpl3 hq3 hm3' (by omega)
                    rw [← hl5] at kRt
                    have sole11 := hJ11.disk
                    obtain ⟨TD, hTD⟩ : ∃ TD, TD = max q3 m3' := ⟨_, rfl⟩
                    rw [← hTD] at kRt hlo3 hlf3
                    have hTDl : TD ≤ M5.length := by omega
                    have rest : ∀ W12, Below W11.heap.size W11 W12 → Rest w.heap.size w W12 p x11 d11 (.slice a5 TD TD) (M5.take TD) (all5.take TD) (i + 1) := fun W12 hb => by
                      have hl : (all5.take TD).length = TD := by rw [List.length_take]; omega
                      refine ⟨(stay11.quiet hb hbs11).cut (by omega), sole11.below hb, hops11, hfree11 fD.out, ?_, hlf3.small, by rw [hl]; omega⟩
                      have := hlf3.outs.cur hlf3.inv
                      rw [hl]
                      exact this
                    replace rest := hid rest
                    replace stay11 := hid stay11
                    replace hJ11 := hid hJ11
                    replace hlf3 := hid hlf3
                    replace hrat3 := hid hrat3
                    replace hpl3 := hid hpl3
                    replace hown3 := hid hown3
                    replace sole11 := hid sole11
                    replace hTD := hid hTD
                    replace hl5 := hid hl5
                    generalize (if hv3 = true then stK q3 else []).length = BL3 at *
                    have dTD : decide ((TD : Int) < (j5.s : Int)) = false := by simp; omega
                    clear kO hg11 hk11
                    go_wp2_with fail
                    refine kRt.mono ?_
                    rintro e W12 ⟨rfl, hb12⟩
                    have rest12 := hid (rest.out W12 hb12)
                    have i6 : (TD : Int) ≤ (c5 : Int) := by omega
                    have i7 : TD ≤ c5 := by omega
                    go_wp2_with fail
                    go_roundw
                    case rel => exact ⟨i + 1, x11, d11, _, _, by omega, by omega, by go_num, rest12⟩
                    case measure => simp [intOf]; omega
                  · exact absurd fD.out hnf
            · have hMl5' := hMl5
              have kSy := synced_blk gj _ _ _ _ _ wr hW.out.jis.blk
              have dsk := hid hW.out.jis.disk
              have m2 := hid hW.out.l2
              have m3 := hid hW.out.l3
              have m4 := hid hW.out.l4
              have hops5 := hW.out.ops
              have hlife5 := hid hW.out.life
              have hcel : ∀ (w2 : World) (LL : Nat → Bool), (if LL 7 = true then (∃ (x6 : Dx) (kp tp : Nat), Sole w.heap.size w2 p x6 (j5.d.crashD (kp : Int) (tp : Int)) ∧ Grow wr p x5 x6 ∧ Kp (Turn p x5) wr w2) else Below wr.heap.size wr w2) → ∀ (o : Nat) (u : Value), wr.cell? ⟨gx, o, none⟩ = some u → w2.cell? ⟨gx, o, none⟩ = some u := fun w2 LL h o u hu => by
                split at h
                · obtain ⟨_, _, _, _, _, h⟩ := h
                  exact cell_kp h hW.out.offT hu
                · exact cell_b h hu
              replace hcel := hid hcel
              replace hMl5 := hid hMl5
              clear hMl5'
              go_wp2_with fail
              refine kSy.mono ?_
              rintro e W6 ⟨rfl, hw6⟩
              rw [hw6]
              clear hw6
              clear W6
              go_wp2_with fail
              refine wp_region_all (Wd := fun LL w2 => if LL 7 = true then (∃ (x6 : Dx) (kp tp : Nat), Sole w.heap.size w2 p x6 (j5.d.crashD (kp : Int) (tp : Int)) ∧ Grow wr p x5 x6 ∧ Kp (Turn p x5) wr w2) else Below wr.heap.size wr w2) (Pv := pv25 p gx L.keep L.torn) (by kernel_rfl) (by kernel_rfl) ?_ ?_ ?_
              · intro LL hL
                try dsimp only
                rw [hL 7, if_neg (by simp)]
                exact drew_below wr
              · refine ⟨?_, ?_, ?_, ?_, ?_, ?_, ?_, ?_, ?_, trivial⟩
                · intro ac w2 LL hL hup hWd hd hk K hK
                  exact yes (want_n rfl) (wp_mv _ rfl _ (get_keep (hk 3 (no_dst (by kernel_rfl))) rfl) (hK _ w2 (fun _ => rfl) (fun L' h1 h3 => by dsimp only; rw [h3 7 (by decide)]; exact hWd)))
                · intro ac w2 LL hL hup hWd hd hk K hK
                  have e6 : ac.tmps[6]?.getD undef = (.pointer (some ⟨gx, 0, none⟩) : Value) := slot (get_keep (hk 6 (no_dst (by kernel_rfl))) rfl)
                  refine yes (want_n rfl) ?_
                  have hv := hid (hK (.pointer (some ⟨gx, 2, none⟩)) w2 (fun _ => rfl) (fun L' h1 h3 => by dsimp only; rw [h3 7 (by decide)]; exact hWd))
                  clear hK hWd hL hup hd hk
                  go_simp
                  exact kq3 hv.out rfl
                · intro ac w2 LL hL hup hWd hd hk K hK
                  have e131 : ac.tmps[131]?.getD undef = (.pointer (some ⟨gx, 2, none⟩) : Value) := slot (hd 1 _ 131 rfl rfl rfl)
                  have y0 := hcel.out w2 _ hWd 2 _ m2.out
                  refine yes (want_n rfl) ?_
                  have hv := hid (hK (.int .i64 L.keep) w2 (fun _ => rfl) (fun L' h1 h3 => by dsimp only; rw [h3 7 (by decide)]; exact hWd))
                  clear hK hWd hL hup hd hk
                  go_simp
                  exact kq3 hv.out rfl
                · intro ac w2 LL hL hup hWd hd hk K hK
                  exact yes (want_n rfl) (wp_callv 35 _ _ rfl _ Try.func35 rfl rfl _ (args2 (hd 2 _ 132 rfl rfl rfl) rfl) (pickk_any L.keep 40 w2 (by omega) (by omega)) (by rintro e w3 ⟨⟨pn, _, rfl⟩, rfl⟩; exact ⟨_, rfl, hK _ w3 (fun _ => ⟨pn, rfl⟩) (fun L' h1 h3 => by dsimp only; rw [h3 7 (by decide)]; exact hWd)⟩))
                · intro ac w2 LL hL hup hWd hd hk K hK
                  have e6 : ac.tmps[6]?.getD undef = (.pointer (some ⟨gx, 0, none⟩) : Value) := slot (get_keep (hk 6 (no_dst (by kernel_rfl))) rfl)
                  refine yes (want_n rfl) ?_
                  have hv := hid (hK (.pointer (some ⟨gx, 3, none⟩)) w2 (fun _ => rfl) (fun L' h1 h3 => by dsimp only; rw [h3 7 (by decide)]; exact hWd))
                  clear hK hWd hL hup hd hk
                  go_simp
                  exact kq3 hv.out rfl
                · intro ac w2 LL hL hup hWd hd hk K hK
                  have e134 : ac.tmps[134]?.getD undef = (.pointer (some ⟨gx, 3, none⟩) : Value) := slot (hd 4 _ 134 rfl rfl rfl)
                  have y0 := hcel.out w2 _ hWd 3 _ m3.out
                  refine yes (want_n rfl) ?_
                  have hv := hid (hK (.int .i64 L.torn) w2 (fun _ => rfl) (fun L' h1 h3 => by dsimp only; rw [h3 7 (by decide)]; exact hWd))
                  clear hK hWd hL hup hd hk
                  go_simp
                  exact kq3 hv.out rfl
                · intro ac w2 LL hL hup hWd hd hk K hK
                  exact yes (want_n rfl) (wp_callv 35 _ _ rfl _ Try.func35 rfl rfl _ (args2 (hd 5 _ 135 rfl rfl rfl) rfl) (pickk_any L.torn 80 w2 (by omega) (by omega)) (by rintro e w3 ⟨⟨pn, _, rfl⟩, rfl⟩; exact ⟨_, rfl, hK _ w3 (fun _ => ⟨pn, rfl⟩) (fun L' h1 h3 => by dsimp only; rw [h3 7 (by decide)]; exact hWd)⟩))
                · intro ac w2 LL hL hup hWd hd hk K hK
                  try dsimp only at hWd
                  rw [hL, if_neg (by simp)] at hWd
                  obtain ⟨kp, hkp⟩ := hd 3 _ 133 rfl rfl rfl
                  obtain ⟨tp, htp⟩ := hd 6 _ 136 rfl rfl rfl
                  have hcf := crash_free j5.d kp tp
                  exact yes (want_n rfl) (wp_callv 38 _ _ rfl _ Try.func38 rfl rfl _ (args3k (hd 0 _ 130 rfl rfl rfl) hkp htp) (crash_sole w.heap.size p x5 j5.d _ (kp : Int) (tp : Int) 0 w2 (dsk.out.below hWd) (Nat.le_trans hbs5 hWd.size) (by omega) hcf.2.2.1 rfl) (by
                    rintro e w3 ⟨rfl, x6, t1, t2, t3⟩
                    refine ⟨_, rfl, hK _ w3 (fun _ => rfl) (fun L' h1 h3 => ?_)⟩
                    try dsimp only
                    rw [h1, if_pos rfl]
                    exact ⟨x6, kp, tp, t1, t2.low hWd.size, (Kp.of_below hWd).trans t3⟩))
                · intro ac w2 LL hL hup hWd hd hk K hK
                  have e137 : ac.tmps[137]?.getD undef = (.int .i64 0 : Value) := slot (hd 7 _ 137 rfl rfl rfl)
                  refine yes (want_n rfl) ?_
                  have hv := hid (hK (.bool false) w2 (fun _ => rfl) (fun L' h1 h3 => by dsimp only; rw [h3 7 (by decide)]; exact hWd))
                  clear hK hWd hL hup hd hk
                  go_simp
                  exact kq3 hv.out rfl
              · intro ac W7 hdf hsz hkp hval hWd
                obtain ⟨LL, hall7, hWd⟩ := hWd
                try dsimp only at hWd
                rw [hall7 7 (by decide), if_pos rfl] at hWd
                obtain ⟨x6, kp, tp, sC, gC, kC⟩ := hWd
                have q138 : ac.tmps.getD 138 undef = (.bool false : Value) := hval 8 _ 138 rfl rfl
                obtain ⟨ff, hf⟩ : ∃ ff, ff = fun d => ac.tmps.getD d undef := ⟨_, rfl⟩
                have h138 : ff 138 = (.bool false : Value) := by rw [hf]; exact q138
                have hfa := act_filled hdf hsz hkp
                rw [← hf] at hfa
                rw [hfa]
                clear hdf hsz hkp hval hfa hf q138
                clear ac
                simp only [fillAll, List.set_cons_zero, List.set_cons_succ, h138]
                clear h138
                obtain ⟨fC, oC, _, cC⟩ := crash_free j5.d kp tp
                have goodC : Good stK (j5.d.crashD (kp : Int) (tp : Int)).cur all5 j5.s := by rw [cC]; exact hlife5.out.outs kp tp
                have stay7 : Stay w.heap.size w W7 (fun k => Turn p x6 k ∨ Reads x6 k) (.slice a5 M5.length c5) M5 all5 := hW.out.stay.step (kC.mono (fun k _ e => .inl (.inl e))) (fun k e => by
                  rcases e with e | e
                  · exact (gC.1 k e).elim (fun e => .inl (.inl (.inl e))) .inr
                  · exact (gC.2 k e).elim (fun e => .inl (.inl (.inr e))) .inr) hbs5
                have hbs7 := stay7.bel.size
                have n3 := cell_kp kC hW.out.offT m3.out
                have n4 := cell_kp kC hW.out.offT m4.out
                have hgl7 := World.block_lt_of_cell? _ _ n3
                simp only at hgl7
                have hgx6 : ¬ Turn p x6 gx := fun e => by
                  rcases gC.1 gx e with h4 | h4
                  · exact hW.out.offT h4
                  · have := World.block_lt_of_cell? _ _ m3.out; simp only at this; omega
                generalize j5.d.crashD (kp : Int) (tp : Int) = dC at *
                replace stay7 := hid stay7
                replace sC := hid sC
                replace goodC := hid goodC
                replace fC := hid fC
                replace oC := hid oC
                clear cC gC kC hcel
                go_wp2_with fail
                refine (pickk_any L.again 3 _ (by omega) (by omega)).mono ?_
                rintro e W6 ⟨⟨ag, hag, rfl⟩, hw6⟩
                rw [hw6]
                clear hw6
                clear W6
                have kArm := arm_sole w.heap.size p x6 dC ag W7 sC.out hbs7 (by omega)
                go_wp2_with fail
                refine kArm.mono ?_
                rintro e W8 ⟨rfl, x7, s7, g7, k7⟩
                have kz7 := k7.size
                have kO := open_k (st := stK) w.heap.size p x7 { dC with arm := (ag : Int) } all5 j5.s W8 s7 (by omega) fC.out.1 oC.out goodC.out hlife5.out.small (by omega) stK_len
                have stay8 : Stay w.heap.size w W8 (fun k => Turn p x7 k ∨ Reads x7 k) (.slice a5 M5.length c5) M5 all5 := stay7.out.step (k7.mono (fun k _ e => .inl e)) (fun k e => by
                  rcases e with e | e
                  · exact (g7.1 k e).elim (fun e => .inl (.inl e)) .inr
                  · exact (g7.2 k e).elim (fun e => .inl (.inr e)) .inr) hbs7
                have hgx7 : ¬ Turn p x7 gx := fun e => by
                  rcases g7.1 gx e with h4 | h4
                  · exact hgx6 h4
                  · omega
                have n38 := cell_kp k7 hgx6 n3
                have hbs8 := stay8.bel.size
                replace stay8 := hid stay8
                clear kArm s7 g7 k7
                go_wp2_with fail
                refine kO.mono ?_
                intro e W9 hO
                obtain ⟨V9, x8, d8, rfl, s9, few9, out9, g9, k9⟩ : ∃ (V9 : Value) (x8 : Dx) (d8 : Dsk), e = .returned V9 ∧ Sole w.heap.size W9 p x8 d8 ∧ d8.ops.length ≤ 10 ∧ Outs stK d8 all5 j5.s ∧ Grow W8 p x7 x8 ∧ Kp (Turn p x7) W8 W9 := by
                  rcases hO with ⟨gj', sa', sc', v', x', d', f', q', m', hv', rs', ra', rc', rfl, hJ', _, _, _, _, _, _, _, hlo', hq', hm', hlf', hop', _, hg', hk'⟩ | ⟨E', x', d', _, rfl, hs', ho', hop', hg', hk'⟩
                  · refine ⟨_, x', d', rfl, hJ'.disk, by rw [hop']; simp, fun kk tt => ?_, hg', hk'⟩
                    have := hlf'.outs kk tt
                    exact (this.wide (by omega)).less hlo'
                  · exact ⟨_, x', d', rfl, hs', hop', ho', hg', hk'⟩
                clear hO kO
                have kz9 := k9.size
                have stay9 : Stay w.heap.size w W9 (fun k => Turn p x8 k ∨ Reads x8 k) (.slice a5 M5.length c5) M5 all5 := stay8.out.step (k9.mono (fun k _ e => .inl e)) (fun k e => by
                  rcases e with e | e
                  · exact (g9.1 k e).elim (fun e => .inl (.inl e)) .inr
                  · exact (g9.2 k e).elim (fun e => .inl (.inr e)) .inr) hbs8
                have n39 := cell_kp k9 hgx7 n38
                have hbs9 := stay9.bel.size
                replace stay9 := hid stay9
                replace out9 := hid out9
                replace s9 := hid s9
                clear g9 k9
                go_wp2_with fail
                refine (pickk_any L.torn 3 _ (by omega) (by omega)).mono ?_
                rintro e W6 ⟨⟨k2, hk2, rfl⟩, hw6⟩
                rw [hw6]
                clear hw6
                clear W6
                obtain ⟨fD, oD, eD, cD⟩ := crash_free d8 k2 0
                have kCr := crash_sole w.heap.size p x8 d8 _ (k2 : Int) ((0 : Nat) : Int) 0 W9 s9.out hbs9 (by omega) eD rfl
                have goodD : Good stK (d8.crashD (k2 : Int) ((0 : Nat) : Int)).cur all5 j5.s := by rw [cD]; exact out9.out k2 0
                generalize d8.crashD (k2 : Int) ((0 : Nat) : Int) = dD at *
                replace fD := hid fD
                replace oD := hid oD
                replace goodD := hid goodD
                clear eD cD
                go_wp2_with fail
                refine kCr.mono ?_
                rintro e W10 ⟨rfl, x9, s10, g10, k10⟩
                have stay10 : Stay w.heap.size w W10 (fun k => Turn p x9 k ∨ Reads x9 k) (.slice a5 M5.length c5) M5 all5 := stay9.out.step (k10.mono (fun k _ e => .inl e)) (fun k e => by
                  rcases e with e | e
                  · exact (g10.1 k e).elim (fun e => .inl (.inl e)) .inr
                  · exact (g10.2 k e).elim (fun e => .inl (.inr e)) .inr) hbs9
                have hbs10 := stay10.bel.size
                have kO := open_k (st := stK) w.heap.size p x9 dD all5 j5.s W10 s10 hbs10 fD.out.1 oD.out goodD.out hlife5.out.small (by omega) stK_len
                replace stay10 := hid stay10
                clear kCr g10 k10 s10
                go_wp2_with fail
                refine kO.mono ?_
                intro e W11 hO
                rcases hO with hO | ⟨_, _, _, hnf, _⟩
                · obtain ⟨gj3, sa3, sc3, v3, x11, d11, f3, q3, m3', hv3, rs3, ra3, rc3, rfl, hJ11, _, hown3, hq03, rfl, _, hrat3, hpl3, hlo3, hq3, hm3', hlf3, hops11, hfree11, hg11, hk11⟩ := hO
                  have stay11 : Stay w.heap.size w W11 (fun k => Turn p x11 k ∨ Reads x11 k) (.slice a5 M5.length c5) M5 all5 := stay10.out.step (hk11.mono (fun k _ e => .inl e)) (fun k e => by
                    rcases e with e | e
                    · exact (hg11.1 k e).elim (fun e => .inl (.inl e)) .inr
                    · exact (hg11.2 k e).elim (fun e => .inl (.inr e)) .inr) hbs10
                  have hbs11 := stay11.bel.size
                  have hl5 := hMl5.out
                  obtain ⟨a11, c11, e11, hac11, _, hplace11, hv11⟩ := stay11.row.form
                  simp only [Value.slice.injEq] at e11
                  obtain ⟨rfl, _, rfl⟩ := e11
                  have kRt := right_k all5 M5 rs3 a5 sa3 ra3 c5 sc3 rc3 q3 m3' hv3 W11 stay11.is (stay11.rat rfl) (fun ad e => by obtain ⟨g, h1, _⟩ := hplace11 ad e; exact ⟨g, h1⟩) (by omega) hv11 hown3.at hq03 hrat3 hpl3 hq3 hm3' (by omega)
                  rw [← hl5] at kRt
                  have sole11 := hJ11.disk
                  obtain ⟨TD, hTD⟩ : ∃ TD, TD = max q3 m3' := ⟨_, rfl⟩
                  rw [← hTD] at kRt hlo3 hlf3
                  have hTDl : TD ≤ M5.length := by omega
                  have rest : ∀ W12, Below W11.heap.size W11 W12 → Rest w.heap.size w W12 p x11 d11 (.slice a5 TD TD) (M5.take TD) (all5.take TD) (i + 1) := fun W12 hb => by
                    have hl : (all5.take TD).length = TD := by rw [List.length_take]; omega
                    refine ⟨(stay11.quiet hb hbs11).cut (by omega), sole11.below hb, hops11, hfree11 fD.out, ?_, hlf3.small, by rw [hl]; omega⟩
                    have := hlf3.outs.cur hlf3.inv
                    rw [hl]
                    exact this
                  replace rest := hid rest
                  replace stay11 := hid stay11
                  replace hJ11 := hid hJ11
                  replace hlf3 := hid hlf3
                  replace hrat3 := hid hrat3
                  replace hpl3 := hid hpl3
                  replace hown3 := hid hown3
                  replace sole11 := hid sole11
                  replace hTD := hid hTD
                  replace hl5 := hid hl5
                  generalize (if hv3 = true then stK q3 else []).length = BL3 at *
                  have dTD : decide ((TD : Int) < (j5.s : Int)) = false := by simp; omega
                  clear kO hg11 hk11
                  go_wp2_with fail
                  refine kRt.mono ?_
                  rintro e W12 ⟨rfl, hb12⟩
                  have rest12 := hid (rest.out W12 hb12)
                  have i6 : (TD : Int) ≤ (c5 : Int) := by omega
                  have i7 : TD ≤ c5 := by omega
                  go_wp2_with fail
                  go_roundw
                  case rel => exact ⟨i + 1, x11, d11, _, _, by omega, by omega, by go_num, rest12⟩
                  case measure => simp [intOf]; omega
                · exact absurd fD.out hnf
        · exact absurd hR.out.free hnf
      · have hbel := hR.out.stay.bel
        go_wp2_with fail
        refine (kA _).mono ?_
        rintro e W2 ⟨rfl, hb2⟩
        have B2 := bnext hbel hb2
        go_wp2
        go_ret
        exact ⟨rfl, B2⟩
    · have hbel := hR.out.stay.bel
      go_wp2_with fail
      refine (kA _).mono ?_
      rintro e W2 ⟨rfl, hb2⟩
      have B2 := bnext hbel hb2
      go_wp2
      go_ret
      exact ⟨rfl, B2⟩

end Go.Proofs.Ytcbgnodmamcmkaa
