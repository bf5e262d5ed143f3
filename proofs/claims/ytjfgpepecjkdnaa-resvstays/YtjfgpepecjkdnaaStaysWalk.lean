/- ResvStays: however reservations come and go, the list stays right. -/
import Derived.Test.YtjfgpepecjkdnaaAwake
import Derived.Deep.DeepCutAuto
namespace Go.Proofs.Ytjfgpepecjkdnaa
open Go.RowKit
set_option linter.unusedVariables false

/-- A right list in memory. -/
def SL (rc : Bool) (cn : Nat) (A : List Acc) (w : World) (sa : Option Addr) (n sc : Nat) (Ms : List (Prt × List ByteArray)) : Prop := n ≤ sc ∧ RL w sa n Ms ∧ rlB rc cn A (Ms.map vw) = true
theorem SL.below {rc : Bool} {cn : Nat} {A : List Acc} {w w' : World} {sa : Option Addr} {n sc : Nat} {Ms : List (Prt × List ByteArray)} (h : SL rc cn A w sa n sc Ms) (hb : Below w.heap.size w w') : SL rc cn A w' sa n sc Ms := ⟨h.1, h.2.1.below hb, h.2.2⟩
theorem SL.few {rc : Bool} {cn : Nat} {A : List Acc} {w : World} {sa : Option Addr} {n sc : Nat} {Ms : List (Prt × List ByteArray)} (h : SL rc cn A w sa n sc Ms) : n ≤ 16 ∧ ∀ p ∈ Ms, p.1.dn ≤ 1000 := by
  have h2 := rl_is.1 h.2.2
  refine ⟨?_, few_of h.2.1 h2.2.2.1⟩
  have h3 := h2.2.1
  rw [List.length_map, h.2.1.len] at h3
  exact h3

theorem apart_is {rc : Bool} {cn : Nat} {A : List Acc} {V : List Vw} (h : rlB rc cn A V = true) (hs : ∀ v ∈ V, v.nodes < 4294967296) {i j : Nat} (hi : i < V.length) (hj : j < i) {x1 x2 : ByteArray} {s1 s2 : Nat} {f1 t1 f2 t2 : Int} {da1 da2 : Option Addr} {dn1 dc1 dn2 dc2 : Nat} {T1 T2 : List ByteArray}
    (e1 : vAt V i = vw (⟨x1, (s1 : Int), f1, t1, da1, dn1, dc1⟩, T1)) (e2 : vAt V j = vw (⟨x2, (s2 : Int), f2, t2, da2, dn2, dc2⟩, T2)) : ¬ (s1 &&& s2 ≠ 0 ∧ f1 < t2 ∧ f2 < t1) := by
  have := rl_apart h hs hi hj
  rw [e1, e2] at this
  simpa [vw] using this
theorem set_vw {w : World} {a : Option Addr} {k : Nat} {M : List (Prt × List ByteArray)} (h : RL w a k M) : ∀ v ∈ M.map vw, v.nodes < 4294967296 := fun v hv => by
  obtain ⟨p, hp, rfl⟩ := List.mem_map.1 hv
  obtain ⟨z, hz, hz2⟩ := h.set p hp
  show p.1.nodes.toNat < 4294967296
  rw [hz]; simpa using hz2

set_option maxRecDepth 100000 in
set_option maxHeartbeats 8000000 in
theorem stays_any (ca pa aa qa : Option Addr) (cn cc pn pc ak az qk qc : Nat) (pol : Int) (Z : List Int) (M0 : List (Prt × List ByteArray)) (A : List Acc) (Q : List Qu) (a : Option Addr) (k c : Nat) (M : List (Prt × List ByteArray)) (ta : Option Addr) (tk tc : Nat) (Ts : List Int) (w : World)
    (hC : CfR w ca pa aa qa cn pn ak az qk Z M0 A Q) (hR : RL w a k M) (hTl : Ts.length = tk) (htl : tk ≤ 4611686018427387904) (hTat : IAt w ta Ts) :
    Calls Try.prog 4 #[.agg #[.slice ca cn cc, .slice pa pn pc, .slice aa ak az, .slice qa qk qc, .int .u8 pol], .slice a k c, .slice ta tk tc] w fun e w' => e = .returned (.bool true) ∧ Below w.heap.size w w' := by
  obtain ⟨W0, hW0⟩ : ∃ W0, W0 = w.alloc (.cells #[.slice ca cn cc, .slice pa pn pc, .slice aa ak az, .slice qa qk qc, .int .u8 pol] 28) := ⟨_, rfl⟩
  have b0 : Below w.heap.size w W0 := by rw [hW0]; exact below_lit _ _
  have v0 : W0.cell? ⟨w.heap.size, 0, none⟩ = some (.slice ca cn cc) := by rw [hW0]; exact lit_cell _ _ _ _ _ rfl
  have v1 : W0.cell? ⟨w.heap.size, 1, none⟩ = some (.slice pa pn pc) := by rw [hW0]; exact lit_cell _ _ _ _ _ rfl
  have v2 : W0.cell? ⟨w.heap.size, 2, none⟩ = some (.slice aa ak az) := by rw [hW0]; exact lit_cell _ _ _ _ _ rfl
  have v3 : W0.cell? ⟨w.heap.size, 3, none⟩ = some (.slice qa qk qc) := by rw [hW0]; exact lit_cell _ _ _ _ _ rfl
  have v4 : W0.cell? ⟨w.heap.size, 4, none⟩ = some (.int .u8 pol) := by rw [hW0]; exact lit_cell _ _ _ _ _ rfl
  have kG := big_any ca pa aa qa cn cc pn pc ak az qk qc pol a k c W0
  have hg0 := World.block_lt_of_cell? W0 _ v0
  have hl := hR.le
  have hn : M.length = k := hR.len
  have hmn : (M.map (·.1)).length = k := by rw [List.length_map]; exact hn
  replace hn := hid hn
  replace hmn := hid hmn
  replace hR := hid hR
  replace hC := hid hC
  replace hTl := hid hTl
  replace hTat := hid hTat
  generalize hrc : rcB Z M0 A Q pol = rc
  replace hrc := hid hrc
  go_enter Try.func4, Try.ntmps4
  go_wp2_with fail
  rw [← hW0]
  replace hW0 := hid hW0
  refine kG.mono ?_
  clear kG
  rintro e w1 ⟨rfl, hb1⟩
  have D1 := bnext b0 hb1
  replace v0 := stay hb1 v0
  replace v1 := stay hb1 v1
  replace v2 := stay hb1 v2
  replace v3 := stay hb1 v3
  replace v4 := stay hb1 v4
  replace hg0 := World.block_lt_of_cell? w1 _ v0
  clear hb1 b0
  generalize hgg : w.heap.size = g at v0 v1 v2 v3 v4 hg0 ⊢
  replace hgg := hid hgg
  generalize hBG : bigB cn pn ak qk k = BG
  replace hBG := hid hBG
  cases BG with
  | true =>
    go_wp2_with fail
    refine (awake_any _).mono ?_
    rintro e wz ⟨rfl, hbz⟩
    go_wp2
    go_ret
    exact ⟨rfl, bnext D1 hbz⟩
  | false =>
  have kR0 := rright_any ca pa aa qa cn cc pn pc ak az qk qc pol Z M0 A Q none 0 0 [] w1 (hC.out.below D1) (RL.nil _ _) (Nat.le_refl _)
  rw [hrc.out] at kR0
  generalize hR0 : rlB rc cn A (List.map vw []) = R0 at *
  replace hR0 := hid hR0
  go_wp2_with fail
  refine kR0.mono ?_
  clear kR0
  rintro e w2 ⟨rfl, hb2⟩
  replace D1 := bnext D1 hb2
  replace v0 := stay hb2 v0
  replace v1 := stay hb2 v1
  replace v2 := stay hb2 v2
  replace v3 := stay hb2 v3
  replace v4 := stay hb2 v4
  replace hg0 := World.block_lt_of_cell? w2 _ v0
  clear hb2
  cases R0 with
  | false =>
    go_wp2_with fail
    refine (awake_any _).mono ?_
    rintro e wz ⟨rfl, hbz⟩
    go_wp2
    go_ret
    exact ⟨rfl, bnext D1 hbz⟩
  | true =>
  go_wp2_with fail
  go_loopw [7, 28] (fun v i wr => ∃ (j : Nat) (sa : Option Addr) (n sc : Nat) (Ms : List (Prt × List ByteArray)), j ≤ k ∧ i = .int .i64 (j : Int) ∧ v = .slice sa n sc ∧ Hid (SL rc cn A wr sa n sc Ms) ∧ Below w2.heap.size w2 wr) (fun _ i _ => k - (intOf i).toNat)
  case atStart => exact ⟨0, none, 0, 0, [], Nat.zero_le _, rfl, rfl, hid ⟨Nat.le_refl _, RL.nil _ _, hR0.out⟩, Below.refl _ _⟩
  case round =>
    obtain ⟨j, sa, n, sc, Ms, hj, rfl, rfl, hsl, hb⟩ := hrel
    have D := bnext D1 hb
    by_cases hlt : j < k
    · have hjL : j < (M.map (·.1)).length := by rw [hmn.out]; exact hlt
      have hjM : j < M.length := by rw [hn.out]; exact hlt
      obtain ⟨b, o, e⟩ := hR.out.mat.place (by omega)
      subst e
      obtain ⟨y0, y1, y2, y3, y4⟩ := (hR.out.mat.below D).one hjL
      obtain ⟨s1, hs1, hs1b⟩ := hR.out.set _ (mAt_mem hjM)
      obtain ⟨hT1, hT2, hT3⟩ := hR.out.inn _ (mAt_mem hjM)
      rw [mAt_fst hjM] at y0 y1 y2 y3 y4
      generalize mAt M j = MJ at *
      obtain ⟨⟨x1, sz1, f1, t1, da1, dn1, dc1⟩, T1⟩ := MJ
      dsimp only at *
      subst hs1
      obtain ⟨W2, hW2⟩ : ∃ W2, W2 = wr.alloc (.cells #[.string x1, .int .u32 (s1 : Int), .int .i64 f1, .int .i64 t1, .slice da1 dn1 dc1] 38) := ⟨_, rfl⟩
      have b2 : Below wr.heap.size wr W2 := by rw [hW2]; exact below_lit _ _
      have r2 : W2.heap[wr.heap.size]? = some (.cells #[.string x1, .int .u32 (s1 : Int), .int .i64 f1, .int .i64 t1, .slice da1 dn1 dc1] 38 (0, 0)) := by rw [hW2]; exact heap_alloc_new _ _
      have hb2 := bnext hb b2
      have D2 := bnext D b2
      have hsl2 := hid (hsl.out.below b2)
      replace hT1 := hid hT1
      replace hT2 := hid hT2
      replace r2 := hid r2
      go_upto_if 36 with fail
      rw [← hW2]
      replace hW2 := hid hW2
      clear y0 y1 y2 y3 y4
      generalize hg9 : wr.heap.size = g9 at *
      replace hg9 := hid hg9
      go_cut [10] (fun s10 wx => ∃ now : Int, s10 = .int .i64 now ∧ wx = W2)
      case first =>
        by_cases hjt : j < tk
        · have hjT : j < Ts.length := by rw [hTl.out]; exact hjt
          obtain ⟨tb, tq, e⟩ := hTat.out.place (by omega)
          subst e
          have x0 := (hTat.out.below D2).one hjT
          have djt : (j : Int) < (tk : Int) := by omega
          generalize itAt Ts j = now at *
          go_wp2_with fail
          go_meet
          exact ⟨now, rfl, rfl⟩
        · have djt : ¬ (j : Int) < (tk : Int) := by omega
          go_wp2_with fail
          go_meet
          exact ⟨0, rfl, rfl⟩
      case rest =>
        obtain ⟨now, rfl, hwc⟩ := hcut
        subst hwc
        have z0 := row_cell r2.out 0 (.string x1) rfl
        have z1 := row_cell r2.out 1 (.int .u32 (s1 : Int)) rfl
        have z2 := row_cell r2.out 2 (.int .i64 f1) rfl
        have z3 := row_cell r2.out 3 (.int .i64 t1) rfl
        have z4 := row_cell r2.out 4 (.slice da1 dn1 dc1) rfl
        have p0 := stay hb2 v0
        have p1 := stay hb2 v1
        have p2 := stay hb2 v2
        have p3 := stay hb2 v3
        have p4 := stay hb2 v4
        have kA := radd_any ca pa aa qa cn cc pn pc ak az qk qc pol Z M0 A Q sa n sc Ms x1 s1 f1 t1 da1 dn1 dc1 T1 now wc (hC.out.below D2) hsl2.out.2.1 hsl2.out.1 hs1b hT1.out hT3 (hT2.out.below D2)
        rw [hrc.out] at kA
        generalize hE : addE rc cn A (Ms.map vw) ⟨x1, s1, f1, t1, T1⟩ now = E at *
        replace hE := hid hE
        go_wp2_with fail
        refine kA.mono ?_
        clear kA
        rintro e w3 ⟨ra, n1, rc1, M1, rfl, hn1, hL1, hm1, hf1, hb3⟩
        replace z0 := stay hb3 z0
        have hb3' := bnext hb2 hb3
        have hsl3 := hid (hsl2.out.below hb3)
        have hok1 : Hid (E = 0 → rlB rc cn A (M1.map vw) = true) := hid (fun h => by
          rw [hm1 h]
          exact add_right (now := now) (by rw [hE.out]; exact h))
        replace hL1 := hid hL1
        replace hm1 := hid hm1
        replace hf1 := hid hf1
        clear p0 p1 p2 p3 p4 z1 z2 z3 z4
        go_upto_if 50 with fail
        go_cut [11, 12] (fun s11 s12 wx => ∃ (ra : Option Addr) (n1 rc1 : Nat) (M1 : List (Prt × List ByteArray)) (E : Int), s11 = .slice ra n1 rc1 ∧ s12 = .int .i64 E ∧ Hid (n1 ≤ rc1 ∧ RL wx ra n1 M1 ∧ (E = 0 → rlB rc cn A (M1.map vw) = true)) ∧ Below w3.heap.size w3 wx)
        case first =>
          by_cases hE4 : E = 140
          · subst hE4
            have kD := drop_any sa n sc x1 Ms w3 hsl3.out.2.1 (by have := hsl3.out.few.1; omega) hsl3.out.few.2
            go_wp2_with fail
            refine kD.mono ?_
            clear kD
            rintro e w4 h4
            rcases h4 with ⟨qa', qn, qc', M4, rfl, hqn, hL4, hm4, _, hb4⟩ | ⟨rfl, hb4⟩
            · have hok4 : Hid (rlB rc cn A (M4.map vw) = true) := hid (by rw [hm4]; exact rl_sub hsl3.out.2.2 (dr_sub _ _))
              replace hL4 := hid hL4
              replace hm4 := hid hm4
              go_wp2_with fail
              go_meet
              exact ⟨qa', qn, qc', M4, 0, rfl, rfl, hid ⟨hqn, hL4.out, fun _ => hok4.out⟩, hb4⟩
            · go_wp2_with fail
              go_meet
              exact ⟨none, 0, 0, [], 141, rfl, rfl, hid ⟨Nat.le_refl _, RL.nil _ _, fun h => by cases h⟩, hb4⟩
          · have d4 : decide (E = 140) = false := decide_eq_false hE4
            have d4' : (E == 140) = false := by simpa using hE4
            replace hE4 := hid hE4
            go_wp2_with fail
            go_meet
            exact ⟨ra, n1, rc1, M1, E, rfl, rfl, hid ⟨hn1, hL1.out, hok1.out⟩, Below.refl _ _⟩
        case rest =>
          obtain ⟨ra2, n2, rc2, M2, E2, rfl, rfl, hok2, hb4⟩ := hcut
          have hb4' := bnext hb3' hb4
          have hsl4 := hid (hsl3.out.below hb4)
          clear z0 hok1 hL1 hm1 hf1 hE hn1
          go_upto_if 59 with fail
          go_cut [7] (fun s7 wx => ∃ (sa : Option Addr) (n sc : Nat) (Ms : List (Prt × List ByteArray)), s7 = .slice sa n sc ∧ Hid (SL rc cn A wx sa n sc Ms) ∧ wx = wc)
          case first =>
            by_cases hE0 : E2 = 0
            · subst hE0
              go_wp2_with fail
              go_meet
              exact ⟨ra2, n2, rc2, M2, rfl, hid ⟨hok2.out.1, hok2.out.2.1, hok2.out.2.2 (by trivial)⟩, rfl⟩
            · have d4 : decide (E2 = 0) = false := decide_eq_false hE0
              have d4' : (E2 == 0) = false := by simpa using hE0
              replace hE0 := hid hE0
              go_wp2_with fail
              go_meet
              exact ⟨sa, n, sc, Ms, rfl, hsl4, rfl⟩
          case rest =>
            obtain ⟨sa3, n3, sc3, Ms3, rfl, hsl5, hwc⟩ := hcut
            subst hwc
            clear hsl4 hok2
            go_upto_if 63 with fail
            go_cut [7] (fun s7 wx => ∃ (sa : Option Addr) (n sc : Nat) (Ms : List (Prt × List ByteArray)), s7 = .slice sa n sc ∧ Hid (SL rc cn A wx sa n sc Ms) ∧ Below wc.heap.size wc wx)
            case first =>
              have kE := expire_any sa3 n3 sc3 now Ms3 wc hsl5.out.2.1 (by have := hsl5.out.few.1; omega) hsl5.out.few.2
              go_wp2_with fail
              · refine kE.mono ?_
                clear kE
                rintro e w5 ⟨ea, en, ec, M5, rfl, hen, hL5, hm5, _, hb5⟩
                have hok5 : Hid (SL rc cn A w5 ea en ec M5) := hid ⟨hen, hL5, by rw [hm5]; exact rl_sub hsl5.out.2.2 List.filter_sublist⟩
                replace hL5 := hid hL5
                replace hm5 := hid hm5
                go_wp2_with fail
                go_meet
                exact ⟨ea, en, ec, M5, rfl, hok5, hb5⟩
              · go_meet
                exact ⟨sa3, n3, sc3, Ms3, rfl, hsl5, Below.refl _ _⟩
            case rest =>
              obtain ⟨sa4, n4, sc4, Ms4, rfl, hsl6, hb5⟩ := hcut
              have hb5' := bnext hb4' hb5
              have D5 := bnext D1 hb5'
              have p0 := stay hb5' v0
              have p1 := stay hb5' v1
              have p2 := stay hb5' v2
              have p3 := stay hb5' v3
              have p4 := stay hb5' v4
              have kR := rright_any ca pa aa qa cn cc pn pc ak az qk qc pol Z M0 A Q sa4 n4 sc4 Ms4 wc (hC.out.below D5) hsl6.out.2.1 hsl6.out.1
              rw [hrc.out, hsl6.out.2.2] at kR
              have hn4 := hsl6.out.few.1
              have hn4c := hsl6.out.1
              clear hsl5
              go_wp2_with fail
              refine kR.mono ?_
              clear kR
              rintro e w6 ⟨rfl, hb6⟩
              have hsl7 := hid (hsl6.out.below hb6)
              have hb6' := bnext hb5' hb6
              have D6 := bnext D1 hb6'
              have hm4n : Hid ((Ms4.map (·.1)).length = n4) := hid (by rw [List.length_map]; exact hsl7.out.2.1.len)
              have hM4n : Hid (Ms4.length = n4) := hid hsl7.out.2.1.len
              have hV4n : Hid ((Ms4.map vw).length = n4) := hid (by rw [List.length_map]; exact hsl7.out.2.1.len)
              clear p0 p1 p2 p3 p4
              go_wp2_with fail
              go_loopw [73] (fun i wy => ∃ m : Nat, m ≤ n4 ∧ i = .int .i64 (m : Int) ∧ Below w6.heap.size w6 wy) (fun i _ => n4 - (intOf i).toNat)
              case atStart => exact ⟨0, Nat.zero_le _, rfl, Below.refl _ _⟩
              case round =>
                obtain ⟨m, hm, rfl, hb7⟩ := hrel
                by_cases hltm : m < n4
                · have hmL : m < (Ms4.map (·.1)).length := by rw [hm4n.out]; exact hltm
                  have hmM : m < Ms4.length := by rw [hM4n.out]; exact hltm
                  have hmat := hsl7.out.2.1.mat
                  obtain ⟨mb, mo, e⟩ := hmat.place (by omega)
                  subst e
                  obtain ⟨y0, y1, y2, y3, y4⟩ := (hmat.below hb7).one hmL
                  have hv1 := hid (vAt_vw hmM)
                  obtain ⟨sA, hsA, hsAb⟩ := hsl7.out.2.1.set _ (mAt_mem hmM)
                  rw [mAt_fst hmM] at y0 y1 y2 y3 y4
                  replace hmat := hid hmat
                  generalize mAt Ms4 m = MJ at *
                  obtain ⟨⟨xA, szA, fA, tA', daA, dnA, dcA⟩, TA⟩ := MJ
                  dsimp only at *
                  subst hsA
                  obtain ⟨W7, hW7⟩ : ∃ W7, W7 = wr.alloc (.cells #[.string xA, .int .u32 (sA : Int), .int .i64 fA, .int .i64 tA', .slice daA dnA dcA] 38) := ⟨_, rfl⟩
                  have b7 : Below wr.heap.size wr W7 := by rw [hW7]; exact below_lit _ _
                  have r7 : W7.heap[wr.heap.size]? = some (.cells #[.string xA, .int .u32 (sA : Int), .int .i64 fA, .int .i64 tA', .slice daA dnA dcA] 38 (0, 0)) := by rw [hW7]; exact heap_alloc_new _ _
                  have hb8 := bnext hb7 b7
                  have hmc : (m : Int) ≤ (sc4 : Int) := by omega
                  replace r7 := hid r7
                  go_wp2_with fail
                  rw [← hW7]
                  replace hW7 := hid hW7
                  clear y0 y1 y2 y3 y4
                  generalize hg14 : wr.heap.size = g14 at *
                  replace hg14 := hid hg14
                  go_loopw [82] (fun i wy => ∃ q : Nat, q ≤ m ∧ i = .int .i64 (q : Int) ∧ Below W7.heap.size W7 wy) (fun i _ => m - (intOf i).toNat)
                  case atStart => exact ⟨0, Nat.zero_le _, rfl, Below.refl _ _⟩
                  case round =>
                    obtain ⟨q, hq, rfl, hb9⟩ := hrel
                    by_cases hltq : q < m
                    · have hqL : q < (Ms4.map (·.1)).length := by rw [hm4n.out]; omega
                      have hqM : q < Ms4.length := by rw [hM4n.out]; omega
                      have hb9' := bnext hb8 hb9
                      obtain ⟨y0, y1, y2, y3, y4⟩ := (hmat.out.below hb9').one hqL
                      have hv2 := hid (vAt_vw hqM)
                      obtain ⟨sB, hsB, hsBb⟩ := hsl7.out.2.1.set _ (mAt_mem hqM)
                      rw [mAt_fst hqM] at y0 y1 y2 y3 y4
                      generalize mAt Ms4 q = MQ at *
                      obtain ⟨⟨xB, szB, fB, tB', daB, dnB, dcB⟩, TB⟩ := MQ
                      dsimp only at *
                      subst hsB
                      have hap := apart_is hsl7.out.2.2 (set_vw hsl7.out.2.1) (i := m) (j := q) (by rw [hV4n.out]; exact hltm) hltq hv1.out hv2.out
                      have r9 : wr.heap[g14]? = some (.cells #[.string xA, .int .u32 (sA : Int), .int .i64 fA, .int .i64 tA', .slice daA dnA dcA] 38 (0, 0)) := by
                        rw [hb9.block _ (Array.getElem?_eq_some_iff.1 r7.out).1]; exact r7.out
                      have x1 := row_cell r9 1 (.int .u32 (sA : Int)) rfl
                      have x2 := row_cell r9 2 (.int .i64 fA) rfl
                      have x3 := row_cell r9 3 (.int .i64 tA') rfl
                      have hgl := World.block_lt_of_cell? wr _ x1
                      have hand := u32_and_nat sA sB hsAb hsBb
                      have b9 := below_lit wr (.cells #[.string xB, .int .u32 (sB : Int), .int .i64 fB, .int .i64 tB', .slice daB dnB dcB] 38)
                      have hb10 := bnext hb9 b9
                      replace r9 := hid r9
                      by_cases h1 : sA &&& sB = 0
                      · have d1 : (bits .and .u32 (sA : Int) (sB : Int) != 0) = false := by rw [hand, h1]; rfl
                        clear hap hand h1
                        go_wp2_with fail
                        go_roundw
                        case rel => exact ⟨q + 1, by omega, by go_num, hb10⟩
                        case measure => simp [intOf]; omega
                      · have d1 : (bits .and .u32 (sA : Int) (sB : Int) != 0) = true := by rw [hand]; simp; omega
                        by_cases h2 : fA < tB'
                        · have d2 : decide (fA < tB') = true := decide_eq_true h2
                          have h3 : ¬ fB < tA' := fun h => hap ⟨h1, h2, h⟩
                          have d3 : decide (fB < tA') = false := decide_eq_false h3
                          clear hap hand h1
                          go_wp2_with fail
                          go_roundw
                          case rel => exact ⟨q + 1, by omega, by go_num, hb10⟩
                          case measure => simp [intOf]; omega
                        · have d2 : decide (fA < tB') = false := decide_eq_false h2
                          clear hap hand h1
                          go_wp2_with fail
                          go_roundw
                          case rel => exact ⟨q + 1, by omega, by go_num, hb10⟩
                          case measure => simp [intOf]; omega
                    · have hqe : q = m := by omega
                      subst hqe
                      go_wp2_with fail
                      go_roundw
                      case rel => exact ⟨q + 1, by omega, by go_num, bnext hb8 hb9⟩
                      case measure => simp [intOf]; omega
                · have hme : m = n4 := by omega
                  subst hme
                  have hslN := hid (hsl7.out.below hb7)
                  go_wp2_with fail
                  go_roundw
                  case rel => exact ⟨j + 1, sa4, m, sc4, Ms4, by omega, by go_num, rfl, hslN, bnext hb6' hb7⟩
                  case measure => simp [intOf]; omega
    · have hje : j = k := by omega
      subst hje
      go_wp2_with fail
      refine (awake_any _).mono ?_
      rintro e wz ⟨rfl, hbz⟩
      go_wp2
      go_ret
      exact ⟨rfl, bnext D hbz⟩

end Go.Proofs.Ytjfgpepecjkdnaa
