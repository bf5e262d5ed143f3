/- Whether numbers are such of which something is promised; whether nobody is above a limit. -/
import Derived.Test.YtpebhjncdfcmnaaHoldP
import Derived.Test.YtpebhjncdfcmnaaAwake
namespace Go.Proofs.Ytpebhjncdfcmnaa
open Go.RowKit
set_option linter.unusedVariables false

def wildB (s : Spc) : Bool := decide (s.nodes < 1) || decide (64 < s.nodes) || decide (s.cores < 1) || decide (64 < s.cores)
theorem wild_no {s : Spc} (h : wildB s = false) : Tame s := by
  unfold wildB at h
  simp only [Bool.or_eq_false_iff, decide_eq_false_iff_not] at h
  exact ⟨by omega, by omega, by omega, by omega⟩

set_option maxHeartbeats 1000000 in
theorem wild_any (s : Spc) (w : World) : Calls Try.prog 6 #[.agg (sc s).toArray] w fun e w' => e = .returned (.bool (wildB s)) ∧ Below w.heap.size w w' := by
  obtain ⟨su, sa, sq, sp, sn, sk, sl, da, dn, dc⟩ := s
  have hw : wildB ⟨su, sa, sq, sp, sn, sk, sl, da, dn, dc⟩ = (decide (sn < 1) || decide (64 < sn) || decide (sk < 1) || decide (64 < sk)) := rfl
  rw [hw]
  clear hw
  change Calls Try.prog 6 #[.agg #[.string su, .string sa, .string sq, .string sp, .int .i64 sn, .int .i64 sk, .int .i64 sl, .slice da dn dc]] w _
  have bl := below_lit w (.cells #[.string su, .string sa, .string sq, .string sp, .int .i64 sn, .int .i64 sk, .int .i64 sl, .slice da dn dc] 32)
  by_cases h1 : sn < 1
  · have d1 : decide (sn < 1) = true := by simpa using h1
    go_enter Try.func6, Try.ntmps6
    go_wp2
    go_ret
    exact ⟨ret_bool (by first | rfl | (rw [d1]; rfl)), bl⟩
  have d1 : decide (sn < 1) = false := by simpa using h1
  by_cases h2 : 64 < sn
  · have d2 : decide (64 < sn) = true := by simpa using h2
    go_enter Try.func6, Try.ntmps6
    go_wp2
    go_ret
    exact ⟨ret_bool (by first | rfl | (rw [d1, d2]; rfl)), bl⟩
  have d2 : decide (64 < sn) = false := by simpa using h2
  by_cases h3 : sk < 1
  · have d3 : decide (sk < 1) = true := by simpa using h3
    go_enter Try.func6, Try.ntmps6
    go_wp2
    go_ret
    exact ⟨ret_bool (by first | rfl | (rw [d1, d2, d3]; rfl)), bl⟩
  have d3 : decide (sk < 1) = false := by simpa using h3
  by_cases h4 : 64 < sk
  · have d4 : decide (64 < sk) = true := by simpa using h4
    go_enter Try.func6, Try.ntmps6
    go_wp2
    go_ret
    exact ⟨ret_bool (by first | rfl | (rw [d1, d2, d3, d4]; rfl)), bl⟩
  have d4 : decide (64 < sk) = false := by simpa using h4
  go_enter Try.func6, Try.ntmps6
  go_wp2
  go_ret
  exact ⟨ret_bool (by first | rfl | (rw [d1, d2, d3, d4]; rfl)), bl⟩

theorem JAt.srange {w : World} {b o : Nat} {C : List Job} (h : JAt w (some ⟨b, o, none⟩) C) {i : Nat} (hi : i < C.length) : w.rangeAt b (o + i * 17 + 3) (sc (jobAt C i).s) := by
  intro r v hv
  have hr : r < 8 := by
    rcases Nat.lt_or_ge r 8 with h1 | h1
    · exact h1
    · rw [List.getElem?_eq_none (by rw [sc_len]; exact h1)] at hv; cases hv
  have := h.range hi (3 + r) v (by
    obtain rfl | rfl | rfl | rfl | rfl | rfl | rfl | rfl : r = 0 ∨ r = 1 ∨ r = 2 ∨ r = 3 ∨ r = 4 ∨ r = 5 ∨ r = 6 ∨ r = 7 := by omega
    all_goals exact hv)
  rw [show o + i * 17 + 3 + r = o + i * 17 + (3 + r) by omega]
  exact this

def wildsB (L : List Job) : Bool := L.any fun j => wildB j.s
theorem wilds_no {L : List Job} (h : wildsB L = false) : ∀ j ∈ L, Tame j.s := fun j hj => wild_no (by
  have := List.any_eq_false.1 h j hj
  simpa using this)
def TameTo (L : List Job) (k : Nat) : Prop := ∀ i, i < k → wildB (jobAt L i).s = false

set_option maxRecDepth 100000 in
set_option maxHeartbeats 1000000 in
theorem wilds_any (a : Option Addr) (k c : Nat) (L : List Job) (w : World) (hn : L.length = k) (hl : k ≤ 4611686018427387904) (hat : JAt w a L) :
    Calls Try.prog 7 #[.slice a k c] w fun e w' => e = .returned (.bool (wildsB L)) ∧ Below w.heap.size w w' := by
  replace hn := hid hn
  replace hat := hid hat
  go_enter Try.func7, Try.ntmps7
  go_wp2_with fail
  go_loopw [3] (fun i wr => ∃ j : Nat, j ≤ k ∧ i = .int .i64 (j : Int) ∧ Hid (TameTo L j) ∧ Below w.heap.size w wr) (fun i _ => k - (intOf i).toNat)
  case atStart => exact ⟨0, Nat.zero_le _, rfl, hid (fun i hi => by omega), Below.refl _ _⟩
  case round =>
    obtain ⟨j, hj, rfl, hok, hb⟩ := hrel
    by_cases hlt : j < k
    · have hjL : j < L.length := by rw [hn.out]; exact hlt
      obtain ⟨b, o, e⟩ := hat.out.place (by omega)
      subst e
      have hcj := hid ((hat.out.below hb).srange hjL)
      have kW := wild_any (jobAt L j).s wr
      cases hB : wildB (jobAt L j).s
      · have hok2 : Hid (TameTo L (j + 1)) := hid fun i hi => by
          rcases Nat.lt_or_ge i j with h3 | h3
          · exact hok.out i h3
          · obtain rfl : i = j := by omega
            exact hB
        rw [hB] at kW
        replace hB := hid hB
        replace hok := hid hok
        generalize (jobAt L j).s = s at *
        go_wp2_with (refine wpList_load_mid rfl 32 (.tmp 13) rfl b (o + j * 17 + 3) rfl (sc s) _ hcj.out Try.underlying32 rfl (by kernel_rfl) ?_)
        refine kW.mono ?_
        rintro e w1 ⟨rfl, hb1⟩
        have B1 := bnext hb hb1
        go_wp2_with fail
        go_roundw
        case rel => exact ⟨j + 1, by omega, by go_num, hok2, B1⟩
        case measure => simp [intOf]; omega
      · have hf : Hid (wildsB L = true) := hid (List.any_eq_true.2 ⟨L[j], List.getElem_mem hjL, by rw [jobAt_eq hjL]; exact hB⟩)
        rw [hB] at kW
        replace hB := hid hB
        replace hok := hid hok
        generalize (jobAt L j).s = s at *
        go_wp2_with (refine wpList_load_mid rfl 32 (.tmp 13) rfl b (o + j * 17 + 3) rfl (sc s) _ hcj.out Try.underlying32 rfl (by kernel_rfl) ?_)
        refine kW.mono ?_
        rintro e w1 ⟨rfl, hb1⟩
        have B1 := bnext hb hb1
        go_wp2
        go_ret
        rw [hf.out]; exact ⟨rfl, B1⟩
    · have hje : j = k := by omega
      subst hje
      have hf : Hid (wildsB L = false) := hid (List.any_eq_false.2 fun x hx => by
        obtain ⟨i, hi, e⟩ := List.getElem_of_mem hx
        have := hok.out i (by rw [← hn.out]; exact hi)
        rw [← jobAt_eq hi, e] at this
        rw [this]; simp)
      go_wp2
      go_ret
      rw [hf.out]; exact ⟨rfl, hb⟩

theorem c_err {A : List Acc} {Q : List Qu} {n : ByteArray} {i : Nat} (hR : confB A Q = true) (h : fi A n = some i) : cErr A Q n = 0 := by unfold cErr; rw [if_pos hR, h]; rfl
theorem c_val {A : List Acc} {Q : List Qu} {L : List Job} {n : ByteArray} (he : cErr A Q n = 0) : cVal A Q L n = (cntP (onP A n) L).1 := by unfold cVal; rw [if_pos he]
theorem q_err {A : List Acc} {Q : List Qu} {n : ByteArray} {i : Nat} (hR : confB A Q = true) (h : qi Q n = some i) : qErr A Q n = 0 := by unfold qErr; rw [if_pos hR, h]; rfl
theorem q_val {A : List Acc} {Q : List Qu} {L : List Job} {n : ByteArray} (he : qErr A Q n = 0) : qVal A Q L n = (cntP (inP n) L).1 := by unfold qVal; rw [if_pos he]
theorem q_num {A : List Acc} {Q : List Qu} {L : List Job} {n : ByteArray} (he : qErr A Q n = 0) : qNum A Q L n = ((cntP (inP n) L).2 : Int) := by unfold qNum; rw [if_pos he]

set_option maxRecDepth 100000 in
set_option maxHeartbeats 4000000 in
theorem within_any (ca pa aa qa : Option Addr) (cn cc pn pc ak az qk qc : Nat) (pol : Int) (A : List Acc) (Q : List Qu) (a : Option Addr) (k c : Nat) (L : List Job) (w : World) (hA : A.length = ak) (hac : ak ≤ az) (hQ : Q.length = qk) (hatA : AAt w aa A) (hatQ : QAt w qa Q) (hn : L.length = k) (hl : k ≤ 4611686018427387904) (hat : JAt w a L) (hR : confB A Q = true) (hT : ∀ j ∈ L, Tame j.s) (hl2 : k ≤ 1048576) (hW : Within A Q L) :
    Calls Try.prog 21 #[.agg #[.slice ca cn cc, .slice pa pn pc, .slice aa ak az, .slice qa qk qc, .int .u8 pol], .slice a k c] w fun e w' => e = .returned (.bool true) ∧ Below w.heap.size w w' := by
  obtain ⟨hRA, hRQ⟩ := conf_is.1 hR
  have hl16 : ak ≤ 16 := by rw [← hA]; exact (right_is.1 hRA).2.1
  have hl1 : 1 ≤ ak := by rw [← hA]; exact (right_is.1 hRA).1
  have hl8 : qk ≤ 8 := by rw [← hQ]; exact (qright_is.1 hRQ).2.1
  have hl0 : 1 ≤ qk := by rw [← hQ]; exact (qright_is.1 hRQ).1
  obtain ⟨b, o, e⟩ := hatA.place (by omega)
  subst e
  obtain ⟨qb, qo, e⟩ := hatQ.place (by omega)
  subst e
  have hLl : L.length ≤ 1048576 := by omega
  obtain ⟨W0, hW0⟩ : ∃ W0, W0 = w.alloc (.cells #[.slice ca cn cc, .slice pa pn pc, .slice (some ⟨b, o, none⟩) ak az, .slice (some ⟨qb, qo, none⟩) qk qc, .int .u8 pol] 28) := ⟨_, rfl⟩
  have bl := below_lit w (.cells #[.slice ca cn cc, .slice pa pn pc, .slice (some ⟨b, o, none⟩) ak az, .slice (some ⟨qb, qo, none⟩) qk qc, .int .u8 pol] 28)
  have cl := lit_range w 28 [.slice ca cn cc, .slice pa pn pc, .slice (some ⟨b, o, none⟩) ak az, .slice (some ⟨qb, qo, none⟩) qk qc, .int .u8 pol]
  have v0 := cl 0 _ rfl
  have v1 := cl 1 _ rfl
  have v2 := cl 2 _ rfl
  have v3 := cl 3 _ rfl
  have v4 := cl 4 _ rfl
  simp only [Nat.zero_add] at v0 v1 v2 v3 v4
  clear cl
  have v2u := v2
  rw [← hW0] at bl v0 v1 v2 v3 v4
  have kC := fun n i (h : fi A n = some i) wx (hb : Below w.heap.size w wx) => cores_any ca pa (some ⟨b, o, none⟩) (some ⟨qb, qo, none⟩) cn cc pn pc ak az qk qc pol A Q a k c L n wx hA hac hQ (hatA.below hb) (hatQ.below hb) hn hl (hat.below hb)
  have kC2 : ∀ n i, fi A n = some i → ∀ wx, Below w.heap.size w wx → Calls Try.prog 11 #[.agg #[.slice ca cn cc, .slice pa pn pc, .slice (some ⟨b, o, none⟩) ak az, .slice (some ⟨qb, qo, none⟩) qk qc, .int .u8 pol], .slice a k c, .string n] wx fun e w' => e = .returned (.tuple #[.int .i64 ((tot (onP A n) L : Nat) : Int), .int .i64 0]) ∧ Below wx.heap.size wx w' := fun n i h wx hb => by
    have := kC n i h wx hb
    have he := c_err hR h
    rw [c_val he, he, cnt_tot _ hT hLl] at this
    exact this
  have kQ2 : ∀ n i, qi Q n = some i → ∀ wx, Below w.heap.size w wx → Calls Try.prog 13 #[.agg #[.slice ca cn cc, .slice pa pn pc, .slice (some ⟨b, o, none⟩) ak az, .slice (some ⟨qb, qo, none⟩) qk qc, .int .u8 pol], .slice a k c, .string n] wx fun e w' => e = .returned (.tuple #[.int .i64 ((tot (inP n) L : Nat) : Int), .int .i64 ((num (inP n) L : Nat) : Int), .int .i64 0]) ∧ Below wx.heap.size wx w' := fun n i h wx hb => by
    have := qos_any ca pa (some ⟨b, o, none⟩) (some ⟨qb, qo, none⟩) cn cc pn pc ak az qk qc pol A Q a k c L n wx hA hac hQ (hatA.below hb) (hatQ.below hb) hn hl (hat.below hb)
    have he := q_err hR h
    rw [q_val he, q_num he, he, cnt_tot _ hT hLl] at this
    exact this
  have kB := fun n i (h : fi A n = some i) wx (hb : Below w.heap.size w wx) => below_ok (some ⟨b, o, none⟩) ak az A n wx hA (by omega) hac (hatA.below hb) (err_of hRA h)
  have hup := fun n m (h : m ∈ belowP A n) => tot_mono (on_up hRA h) L
  have hfb : ∀ n m, m ∈ belowP A n → ∃ i, fi A m = some i := fun n m h => by
    have hm := below_is.1 h
    cases hf : fi A m with
    | none => rw [path_no hf] at hm; cases hm
    | some i => exact ⟨i, rfl⟩
  have hbl : ∀ n, (belowP A n).length ≤ 16 := fun n => by
    have := belTo_len A n A.length
    rw [belTo_all] at this
    omega
  clear kC
  replace hA := hid hA
  replace hQ := hid hQ
  replace hatA := hid hatA
  replace hatQ := hid hatQ
  replace hn := hid hn
  replace hat := hid hat
  replace hR := hid hR
  replace hRA := hid hRA
  replace hRQ := hid hRQ
  replace hT := hid hT
  replace hW := hid hW
  replace kC2 := hid kC2
  replace kQ2 := hid kQ2
  replace kB := hid kB
  replace hup := hid hup
  replace hfb := hid hfb
  replace hbl := hid hbl
  replace v0 := hid v0
  replace v1 := hid v1
  replace v2 := hid v2
  replace v3 := hid v3
  replace v4 := hid v4
  go_enter Try.func21, Try.ntmps21
  go_wp2_with fail
  rw [← hW0]
  replace hW0 := hid hW0
  clear v2u
  go_loopw [23] (fun i wr => ∃ j : Nat, j ≤ ak ∧ i = .int .i64 (j : Int) ∧ Below W0.heap.size W0 wr) (fun i _ => ak - (intOf i).toNat)
  case atStart => exact ⟨0, Nat.zero_le _, rfl, Below.refl _ _⟩
  case round =>
    obtain ⟨i, hi, rfl, hb⟩ := hrel
    obtain ⟨wo, hwo⟩ : ∃ wo, wo = wr := ⟨_, rfl⟩
    subst hwo
    have Bo := bnext bl hb
    by_cases hlt : i < ak
    · have hiA : i < A.length := by rw [hA.out]; exact hlt
      obtain ⟨x0, x1, x2⟩ := (hatA.out.below Bo).one hiA
      have hfi := hid (right_name hRA.out hiA)
      have hlim := hid (hW.out.acc i hiA)
      generalize accAt A i = X at *
      obtain ⟨X0, X1, X2⟩ := X
      dsimp only at *
      have bl1 := below_lit wo (.cells #[.string X0, .string X1, .int .i64 X2] 57)
      have B1 := bnext Bo bl1
      have b1 := bnext hb bl1
      have y0 := stay b1 v0.out
      have y1 := stay b1 v1.out
      have y2 := stay b1 v2.out
      have y3 := stay b1 v3.out
      have y4 := stay b1 v4.out
      have c0 := lit_cell wo 57 #[.string X0, .string X1, .int .i64 X2] 0 _ rfl
      have c2 := lit_cell wo 57 #[.string X0, .string X1, .int .i64 X2] 2 _ rfl
      have kc := kC2.out X0 i hfi.out _ B1
      have hup0 := hid (hup.out X0)
      have hfb0 := hid (hfb.out X0)
      have hbl0 := hbl.out X0
      generalize tot (onP A X0) L = N at *
      have hlN : Hid (0 ≤ X2 → (N : Int) ≤ X2) := hlim
      clear hlim
      go_wp2_with fail
      refine kc.mono ?_
      rintro e w1 ⟨rfl, hb1⟩
      have B2 := bnext B1 hb1
      have b2 := bnext b1 hb1
      replace c0 := stay hb1 c0
      replace c2 := stay hb1 c2
      replace y2 := stay hb1 y2
      clear y0 y1 y3 y4 kc
      have kb := kB.out X0 i hfi.out w1 B2
      have key : ∀ wz, wz = w1 → True := fun _ _ => trivial
      clear key
      have rest : Hid (decide (0 ≤ X2) = false ∨ (decide (0 ≤ X2) = true ∧ decide (X2 < (N : Int)) = false)) := hid (by
        by_cases h0 : 0 ≤ X2
        · exact .inr ⟨by simpa using h0, decide_eq_false (by have := hlN.out h0; omega)⟩
        · exact .inl (by simpa using h0))
      have tail : ∀ (d0 : Bool) (d1 : Bool), True := fun _ _ => trivial
      clear tail
      rcases rest.out with d0 | ⟨d0, d1⟩
      all_goals
        clear rest
        go_wp2_with fail
        refine kb.mono ?_
        rintro e w2 ⟨ta, tc, rfl, htc, ho, hb2⟩
        have B3 := bnext B2 hb2
        have b3 := bnext b2 hb2
        generalize hTx : belowP A X0 = Tx at *
        replace hTx := hid hTx
        have hTat := hid ho.tat
        clear ho
        generalize hTl : Tx.length = tk at *
        replace hTl := hid hTl
        go_wp2_with fail
        go_loopw [58] (fun i wr => ∃ j : Nat, j ≤ tk ∧ i = .int .i64 (j : Int) ∧ Below w2.heap.size w2 wr) (fun i _ => tk - (intOf i).toNat)
        case atStart => exact ⟨0, Nat.zero_le _, rfl, Below.refl _ _⟩
        case round =>
          obtain ⟨j, hj, rfl, hq⟩ := hrel
          have Bq := bnext B3 hq
          have bq := bnext b3 hq
          by_cases hjt : j < tk
          · have hjT : j < Tx.length := by rw [hTl.out]; exact hjt
            obtain ⟨tb, to, e⟩ := hTat.out.place (by omega)
            subst e
            have z0 := (hTat.out.below hq).one hjT
            have hmem : txAt Tx j ∈ Tx := by rw [← txAt_eq hjT]; exact List.getElem_mem hjT
            obtain ⟨i2, hi2⟩ := hfb0.out _ hmem
            have hle := hup0.out _ hmem
            have kc := kC2.out _ i2 hi2 wr Bq
            have y0 := stay bq v0.out
            have y1 := stay bq v1.out
            have y2 := stay bq v2.out
            have y3 := stay bq v3.out
            have y4 := stay bq v4.out
            generalize txAt Tx j = m at *
            generalize tot (onP A m) L = N2 at *
            have d5 : decide ((N : Int) < (N2 : Int)) = false := decide_eq_false (by omega)
            replace hmem := hid hmem
            replace hi2 := hid hi2
            go_wp2_with fail
            refine kc.mono ?_
            rintro e w3 ⟨rfl, hb3⟩
            have hq2 := bnext hq hb3
            clear kc y0 y1 y2 y3 y4 z0
            go_wp2_with fail
            go_roundw
            case rel => exact ⟨j + 1, by omega, by go_num, hq2⟩
            case measure => simp [intOf]; omega
          · have hje : j = tk := by omega
            subst hje
            go_wp2_with fail
            go_roundw
            case rel => exact ⟨i + 1, by omega, by go_num, bq⟩
            case measure => simp [intOf]; omega
    · have hje : i = ak := by omega
      subst hje
      have y3 := stay hb v3.out
      go_wp2_with fail
      go_loopw [83] (fun i wr => ∃ j : Nat, j ≤ qk ∧ i = .int .i64 (j : Int) ∧ Below W0.heap.size W0 wr) (fun i _ => qk - (intOf i).toNat)
      case atStart => exact ⟨0, Nat.zero_le _, rfl, hb⟩
      case round =>
        obtain ⟨j, hj, rfl, hb2⟩ := hrel
        have B2 := bnext bl hb2
        clear y3
        by_cases hjt : j < qk
        · have hjQ : j < Q.length := by rw [hQ.out]; exact hjt
          obtain ⟨x0, x1, x2, x3⟩ := (hatQ.out.below B2).one hjQ
          have hqi := hid ((qright_is.1 hRQ.out).2.2 j hjQ).1
          have hlim := hid (hW.out.cors j hjQ)
          have hnum := hid (hW.out.jobs j hjQ)
          generalize quAt Q j = X at *
          obtain ⟨X0, X1, X2, X3⟩ := X
          dsimp only at *
          have bl1 := below_lit wr (.cells #[.string X0, .int .i64 X1, .int .i64 X2, .int .i64 X3] 59)
          have B3 := bnext B2 bl1
          have b3 := bnext hb2 bl1
          have y0 := stay b3 v0.out
          have y1 := stay b3 v1.out
          have y2 := stay b3 v2.out
          have y3 := stay b3 v3.out
          have y4 := stay b3 v4.out
          have c2 := lit_cell wr 59 #[.string X0, .int .i64 X1, .int .i64 X2, .int .i64 X3] 2 _ rfl
          have c3 := lit_cell wr 59 #[.string X0, .int .i64 X1, .int .i64 X2, .int .i64 X3] 3 _ rfl
          have kq := kQ2.out X0 j hqi.out _ B3
          generalize tot (inP X0) L = N at *
          generalize num (inP X0) L = N2 at *
          go_wp2_with fail
          refine kq.mono ?_
          rintro e w3 ⟨rfl, hb3⟩
          have b4 := bnext b3 hb3
          replace c2 := stay hb3 c2
          replace c3 := stay hb3 c3
          clear y0 y1 y2 y3 y4 kq x0 x1 x2 x3
          by_cases h0 : 0 ≤ X2
          · have d0 : decide (0 ≤ X2) = true := by simpa using h0
            have d1 : decide (X2 < (N : Int)) = false := decide_eq_false (by have := hlim.out h0; omega)
            by_cases h1 : 0 ≤ X3
            · have d2 : decide (0 ≤ X3) = true := by simpa using h1
              have d3 : decide (X3 < (N2 : Int)) = false := decide_eq_false (by have := hnum.out h1; omega)
              go_wp2_with fail
              go_roundw
              case rel => exact ⟨j + 1, by omega, by go_num, b4⟩
              case measure => simp [intOf]; omega
            · have d2 : decide (0 ≤ X3) = false := by simpa using h1
              go_wp2_with fail
              go_roundw
              case rel => exact ⟨j + 1, by omega, by go_num, b4⟩
              case measure => simp [intOf]; omega
          · have d0 : decide (0 ≤ X2) = false := by simpa using h0
            by_cases h1 : 0 ≤ X3
            · have d2 : decide (0 ≤ X3) = true := by simpa using h1
              have d3 : decide (X3 < (N2 : Int)) = false := decide_eq_false (by have := hnum.out h1; omega)
              go_wp2_with fail
              go_roundw
              case rel => exact ⟨j + 1, by omega, by go_num, b4⟩
              case measure => simp [intOf]; omega
            · have d2 : decide (0 ≤ X3) = false := by simpa using h1
              go_wp2_with fail
              go_roundw
              case rel => exact ⟨j + 1, by omega, by go_num, b4⟩
              case measure => simp [intOf]; omega
        · have hje : j = qk := by omega
          subst hje
          go_wp2
          go_ret
          exact ⟨rfl, B2⟩

end Go.Proofs.Ytpebhjncdfcmnaa
