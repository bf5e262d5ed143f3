/- The document's Right. -/
import Derived.Test.YtilncacmkfohdaaPh
import Derived.Test.YtilncacmkfohdaaPe
import Derived.Test.YtilncacmkfohdaaRm
import Derived.Test.YtilncacmkfohdaaNdNr2
namespace Go.Proofs.Ytilncacmkfohdaa
open Go.RowKit
set_option linter.unusedVariables false

/-- What a config is in memory, with what the document's functions ask besides. -/
structure CfD (w : World) (ca pa aa qa : Option Addr) (cn pn pc ak az qk qc : Nat) (Z : List Int) (M : List (Prt × List ByteArray)) (A : List Acc) (Q : List Qu) : Prop where
  c : CfR w ca pa aa qa cn pn ak az qk Z M A Q
  cb : cn ≤ 1000000
  mle : pn ≤ pc
  mc : ∀ p ∈ M, p.1.dn ≤ p.1.dc
  ms : ∀ p ∈ M, p.1.name.size ≤ 9223372036854775807
  asz : Sized A
  qle : qk ≤ qc
  qsz : ∀ x ∈ Q, x.1.size ≤ 9223372036854775807
theorem CfD.below {w w' : World} {ca pa aa qa : Option Addr} {cn pn pc ak az qk qc : Nat} {Z : List Int} {M : List (Prt × List ByteArray)} {A : List Acc} {Q : List Qu} (h : CfD w ca pa aa qa cn pn pc ak az qk qc Z M A Q) (hb : Below w.heap.size w w') : CfD w' ca pa aa qa cn pn pc ak az qk qc Z M A Q :=
  ⟨h.c.below hb, h.cb, h.mle, h.mc, h.ms, h.asz, h.qle, h.qsz⟩

theorem iat_map {w : World} {a : Option Addr} {Z : List Int} (h : IAt w a Z) : CAt w a (Z.map Nd.I) := by
  have : Z.map Nd.I = Z.flatMap ic := by
    clear h
    induction Z with
    | nil => rfl
    | cons x r ih => rw [List.map_cons, List.flatMap_cons, ih]; rfl
  rw [this]; exact h

theorem pi_ahead {L : List Prt} {j : Nat} (hj : j < L.length) : pi L (prtAt L j).name = some j ↔ pi (L.take j) (prtAt L j).name = none := by
  have ht : ∀ i, i < j → prtAt (L.take j) i = prtAt L i := fun i hi => by simp only [prtAt, List.getD_eq_getElem?_getD, List.getElem?_take, if_pos hi]
  rw [pi_is, pi_no]
  constructor
  · rintro ⟨_, _, h⟩ i hi
    have hij : i < j := by rw [List.length_take] at hi; omega
    rw [ht i hij]; exact h i hij
  · intro h
    exact ⟨hj, rfl, fun i hi => by have := h i (by rw [List.length_take]; omega); rwa [ht i hi] at this⟩

theorem PtAt.take {w : World} {a : Option Addr} {C : List Prt} (h : PtAt w a C) (k : Nat) : PtAt w a (C.take k) := flat_take pc5 5 pc5_len (by omega) h k

/-- All of so many nodes. -/
theorem up_new {Z : List Int} : Nd.upP (Nd.mkN Z) = Nd.gs (fun _ => true) (min Z.length 32) := by
  unfold Nd.upP
  rw [Nd.mkN_len]
  refine Nd.ext32 (Nd.gs_lt _ (by omega)) (Nd.gs_lt _ (by omega)) fun i _ => ?_
  rw [Nd.gs_bit, Nd.gs_bit]
  by_cases h : i < min Z.length 32
  · have hi : i < Z.length := by omega
    rw [decide_eq_true h]
    simp [Nd.upB, Nd.nodAt, Nd.mkN, hi]
  · rw [decide_eq_false h]; rfl

/-- It has a node, and none from n on: as the document says it. -/
theorem set_doc {n s : Nat} (hs : s < 4294967296) (hn : n ≤ 32) : setB n s = (!decide (s = 0) && decide (s &&& (4294967295 - Nd.gs (fun _ => true) (min n 32)) = 0)) := by
  have hg := Nd.gs_lt (fun _ => true) (k := min n 32) (by omega)
  have h1 : decide (0 < Nd.cnt s) = !decide (s = 0) := by
    by_cases h0 : s = 0
    · subst h0
      have : Nd.cnt 0 = 0 := by decide
      rw [this]; rfl
    · rw [decide_eq_false h0]
      refine decide_eq_true ?_
      rcases Nat.eq_zero_or_pos (Nd.cnt s) with h | h
      · have h2 := List.eq_nil_of_length_eq_zero h
        have h3 := Nd.ofN_lst hs
        rw [h2] at h3
        exact absurd h3.symm (by simpa [Nd.ofN] using h0)
      · exact h
  have h2 : decide (cf s (strB n) = 0) = decide (s &&& (4294967295 - Nd.gs (fun _ => true) (min n 32)) = 0) := by
    refine decide_eq_decide.2 ?_
    rw [Nd.in_all hs hg]
    constructor
    · intro h i hi hb
      rw [Nd.gs_bit]
      have : i < n := by
        rcases Nat.lt_or_ge i n with h3 | h3
        · exact h3
        · have hm : i ∈ (Nd.lst s).filter (strB n) := List.mem_filter.2 ⟨Nd.mem_lst.2 ⟨hi, hb⟩, decide_eq_true h3⟩
          rw [List.eq_nil_of_length_eq_zero h] at hm; cases hm
      rw [decide_eq_true (by omega)]; rfl
    · intro h
      unfold cf
      rw [List.length_eq_zero_iff, List.filter_eq_nil_iff]
      intro i hi
      obtain ⟨h3, h4⟩ := Nd.mem_lst.1 hi
      have := h i h3 h4
      rw [Nd.gs_bit, Bool.and_true, decide_eq_true_eq] at this
      unfold strB
      rw [decide_eq_true_eq]
      omega
  unfold setB
  rw [h1, h2]

theorem new_len {Z : List Int} (h : (Nd.newP Z).2 = 0) : Nd.newP Z = (Nd.mkN Z, 0) ∧ Z.length ≤ 32 := by
  unfold Nd.newP at *
  by_cases hr : Nd.rightB (Nd.mkN Z) = true
  · rw [if_pos hr]
    have := (Nd.right_is hr).1.2
    rw [Nd.mkN_len] at this
    exact ⟨rfl, this⟩
  · rw [if_neg hr] at h; cases h

set_option maxRecDepth 100000 in
set_option maxHeartbeats 8000000 in
theorem rprt_any (ca pa aa qa : Option Addr) (cn cc pn pc ak az qk qc : Nat) (pol : Int) (Z : List Int) (M : List (Prt × List ByteArray)) (A : List Acc) (Q : List Qu) (w : World) (hC : CfD w ca pa aa qa cn pn pc ak az qk qc Z M A Q) :
    Calls Try.prog 11 #[.agg #[.slice ca cn cc, .slice pa pn pc, .slice aa ak az, .slice qa qk qc, .int .u8 pol]] w fun e w' => e = .returned (.bool (rcB Z M A Q pol)) ∧ Below w.heap.size w w' := by
  obtain ⟨W1, hW1⟩ : ∃ W1, W1 = w.alloc (.cells #[.slice ca cn cc, .slice pa pn pc, .slice aa ak az, .slice qa qk qc, .int .u8 pol] 28) := ⟨_, rfl⟩
  have b1 : Below w.heap.size w W1 := by rw [hW1]; exact below_lit _ _
  have v0 : W1.cell? ⟨w.heap.size, 0, none⟩ = some (.slice ca cn cc) := by rw [hW1]; exact lit_cell _ _ _ _ _ rfl
  have v1 : W1.cell? ⟨w.heap.size, 1, none⟩ = some (.slice pa pn pc) := by rw [hW1]; exact lit_cell _ _ _ _ _ rfl
  have v2 : W1.cell? ⟨w.heap.size, 2, none⟩ = some (.slice aa ak az) := by rw [hW1]; exact lit_cell _ _ _ _ _ rfl
  have v3 : W1.cell? ⟨w.heap.size, 3, none⟩ = some (.slice qa qk qc) := by rw [hW1]; exact lit_cell _ _ _ _ _ rfl
  have v4 : W1.cell? ⟨w.heap.size, 4, none⟩ = some (.int .u8 pol) := by rw [hW1]; exact lit_cell _ _ _ _ _ rfl
  have kN := Nd.newr_any ca cn cc Z W1 hC.c.il (by have := hC.cb; omega) (iat_map (hC.c.iat.below b1))
  have kQ := fun w' (hb : Below w.heap.size w w') => rconf_any ca pa aa qa cn cc pn pc ak az qk qc pol A Q w' hC.c.al hC.c.ale hC.c.ql hC.qle hC.c.ab hC.c.qb hC.asz hC.qsz (hC.c.aat.below hb) (hC.c.qat.below hb)
  have hq := hid (show rcB Z M A Q pol = (confB A Q && decide ((Nd.newP Z).2 = 0) && partsB cn A M && polB pol) by unfold rcB; rw [hC.c.il])
  have hnl := hid (fun h => new_len (Z := Z) h)
  have hml := hid hC.c.ml
  have hzl := hid hC.c.il
  have hlt := World.block_lt_of_cell? W1 _ v0
  replace hC := hid hC
  replace hW1 := hid hW1
  generalize Nd.newP Z = D at *
  obtain ⟨D1, D2⟩ := D
  dsimp only at hq hnl
  go_enter Try.func11, Try.ntmps11
  go_wp2_with fail
  rw [← hW1.out]
  refine kN.mono ?_
  rintro e w1 ⟨ra, rc, rfl, hrc, hown, hb1⟩
  have E1 := bnext b1 hb1
  replace v0 := stay hb1 v0
  replace v1 := stay hb1 v1
  replace v2 := stay hb1 v2
  replace v3 := stay hb1 v3
  replace v4 := stay hb1 v4
  replace hlt := World.block_lt_of_cell? w1 _ v0
  have hDat := hid hown.dat
  clear hown kN b1
  dsimp only at *
  generalize hdl : D1.length = dl at *
  replace hdl := hid hdl
  by_cases h0 : ¬ D2 = 0
  · have hf := hid (show rcB Z M A Q pol = false by rw [hq.out, decide_eq_false h0]; simp)
    go_wp2_with fail
    go_wp2
    go_ret
    exact ⟨ret_bool hf.out.symm, E1⟩
  replace h0 : D2 = 0 := by omega
  obtain ⟨hD, hz32⟩ := hnl.out h0
  subst h0
  rw [decide_eq_true rfl] at hq
  go_wp2_with fail
  refine (kQ _ E1).mono ?_
  rintro e w2 ⟨rfl, hb2⟩
  have E2 := bnext E1 hb2
  replace v0 := stay hb2 v0
  replace v1 := stay hb2 v1
  replace v2 := stay hb2 v2
  replace v3 := stay hb2 v3
  replace v4 := stay hb2 v4
  replace hlt := World.block_lt_of_cell? w2 _ v0
  replace hDat := hid (hDat.out.below hb2)
  clear kQ hb2 E1
  cases hQ1 : confB A Q with
  | false =>
    have hf := hid (show rcB Z M A Q pol = false by rw [hq.out, hQ1]; rfl)
    go_wp2
    go_ret
    exact ⟨ret_bool hf.out.symm, E2⟩
  | true =>
    rw [hQ1] at hq
    replace hQ1 := hid hQ1
    by_cases p1 : pol < 1
    · have hf := hid (show rcB Z M A Q pol = false by rw [hq.out, show polB pol = false from decide_eq_false (by omega)]; simp)
      go_wp2
      go_ret
      exact ⟨ret_bool hf.out.symm, E2⟩
    by_cases p2 : 3 < pol
    · have hf := hid (show rcB Z M A Q pol = false by rw [hq.out, show polB pol = false from decide_eq_false (by omega)]; simp)
      go_wp2
      go_ret
      exact ⟨ret_bool hf.out.symm, E2⟩
    rw [show polB pol = true from decide_eq_true (by omega)] at hq
    by_cases q1 : pn < 1
    · have hf := hid (show rcB Z M A Q pol = false by rw [hq.out, show partsB cn A M = false from decide_eq_false fun h => by have := h.1; have := hml.out; omega]; rfl)
      have d1 : (pn : Int) < 1 := by omega
      go_wp2
      go_ret
      exact ⟨ret_bool hf.out.symm, E2⟩
    have d1 : ¬ (pn : Int) < 1 := by omega
    by_cases q2 : 8 < pn
    · have hf := hid (show rcB Z M A Q pol = false by rw [hq.out, show partsB cn A M = false from decide_eq_false fun h => by have := h.2.1; have := hml.out; omega]; rfl)
      have d2 : (8 : Int) < (pn : Int) := by omega
      go_wp2
      go_ret
      exact ⟨ret_bool hf.out.symm, E2⟩
    have d2 : ¬ (8 : Int) < (pn : Int) := by omega
    have f1 : decide (pol < 1) = false := decide_eq_false p1
    have f2 : decide (3 < pol) = false := decide_eq_false p2
    have f3 : decide ((pn : Int) < 1) = false := decide_eq_false d1
    have f4 : decide ((8 : Int) < (pn : Int)) = false := decide_eq_false d2
    have hfin := hid (show rcB Z M A Q pol = partsB cn A M by rw [hq.out]; simp)
    clear hq
    have kU := Nd.upr_any ra dl rc D1 w2 hdl.out (by rw [← hdl.out]; have := congrArg Prod.fst hD; dsimp only at this; rw [this, Nd.mkN_len]; omega) hDat.out
    have hup := hid (show Nd.gs (Nd.upB D1) (min D1.length 32) = Nd.gs (fun _ => true) (min cn 32) by
      have e1 := congrArg Prod.fst hD
      dsimp only at e1
      rw [e1, ← hzl.out, ← up_new]; rfl)
    rw [hup.out] at kU
    have hgl := Nd.gs_lt (fun _ => true) (k := min cn 32) (by omega)
    have hset := hid (fun z (h : z < 4294967296) => set_doc (n := cn) h (by rw [← hzl.out]; exact hz32))
    generalize Nd.gs (fun _ => true) (min cn 32) = U at *
    go_wp2_with fail
    refine kU.mono ?_
    rintro e w3 ⟨rfl, hb3⟩
    have E3 := bnext E2 hb3
    replace v0 := stay hb3 v0
    replace v1 := stay hb3 v1
    replace v2 := stay hb3 v2
    replace v3 := stay hb3 v3
    replace v4 := stay hb3 v4
    replace hlt := World.block_lt_of_cell? w3 _ v0
    clear kU hb3 E2 hDat
    obtain ⟨b, o, e⟩ := hC.out.c.mat.place (by rw [List.length_map, hml.out]; omega)
    subst e
    go_wp2_with fail
    go_loopw [6] (fun i wr => ∃ j : Nat, j ≤ pn ∧ i = .int .i64 (j : Int) ∧ Hid (PrtTo cn A M j) ∧ Below w3.heap.size w3 wr) (fun i _ => pn - (intOf i).toNat)
    case atStart => exact ⟨0, Nat.zero_le _, rfl, hid (fun i hi => by omega), Below.refl _ _⟩
    case round =>
      obtain ⟨j, hj, rfl, hok, hb⟩ := hrel
      have Ew := bnext E3 hb
      have y0 := stay hb v0
      have y1 := stay hb v1
      have y2 := stay hb v2
      have ly := World.block_lt_of_cell? wr _ y1
      by_cases hlj : j < pn
      · have hjM : j < M.length := by rw [hml.out]; exact hlj
        have hjP : j < (M.map (·.1)).length := by rw [List.length_map]; exact hjM
        obtain ⟨x0, x1, x2, x3, x4⟩ := (hC.out.c.mat.below Ew).one hjP
        have hpah := pi_ahead hjP
        rw [mAt_fst hjM] at x0 x1 x2 x3 x4 hpah
        have hmem := mAt_mem hjM
        obtain ⟨z, hz, hzz⟩ := hC.out.c.set _ hmem
        obtain ⟨t1, t2, t3⟩ := hC.out.c.min _ hmem
        have t4 := hC.out.mc _ hmem
        have t5 := hC.out.ms _ hmem
        have hsz := hset.out z hzz
        have hpB := hid (show partB cn A (mAt M j).1 (mAt M j).2 = (nameB (mAt M j).1.name && (!decide (z = 0) && decide (z &&& (4294967295 - U) = 0)) && decide (0 ≤ (mAt M j).1.prio) && decide ((mAt M j).1.prio ≤ 1000) && decide (1 ≤ (mAt M j).1.most) && decide ((mAt M j).1.most ≤ 1048576) && userB A (mAt M j).2) by unfold partB; rw [hz, Int.toNat_natCast, hsz])
        have kF := fun w' (hbw : Below w.heap.size w w') => rpfind_any (some ⟨b, o, none⟩) j pc ((M.map (·.1)).take j) (mAt M j).1.name w' (by rw [List.length_take, List.length_map, hml.out]; omega) (by omega) ((hC.out.c.mat.below hbw).take j)
        have kM := fun w' => rname_any (mAt M j).1.name t5 w'
        have kW := fun w' => Nd.withinr_any z U hzz hgl w'
        have kL := fun w' (hbw : Below w.heap.size w w') => listed_any aa ak az A (mAt M j).1.da (mAt M j).1.dn (mAt M j).1.dc (mAt M j).2 w' hC.out.c.al hC.out.c.ab (hC.out.c.aat.below hbw) t1 t3 t4 (t2.below hbw)
        rw [hz] at x1
        have hstep : ∀ (h : pi ((M.map (·.1)).take j) (mAt M j).1.name = none ∧ partB cn A (mAt M j).1 (mAt M j).2 = true), Hid (PrtTo cn A M (j + 1)) := fun h => hid fun i hi => by
          rcases Nat.lt_or_ge i j with h1 | h1
          · exact hok.out i h1
          · obtain rfl : i = j := by omega
            exact ⟨hpah.2 h.1, h.2⟩
        have hbad : ¬ (pi ((M.map (·.1)).take j) (mAt M j).1.name = none ∧ partB cn A (mAt M j).1 (mAt M j).2 = true) → Hid (rcB Z M A Q pol = false) := fun h => hid (by
          rw [hfin.out]; exact decide_eq_false fun h1 => h ⟨hpah.1 (h1.2.2 j hjM).1, (h1.2.2 j hjM).2⟩)
        clear t1 t2 t3 t4 t5 hz hmem hpah hsz
        rw [hpB.out] at hstep hbad
        clear hpB
        replace hok := hid hok
        generalize userB A (mAt M j).2 = Q7 at *
        generalize mAt M j = X at *
        obtain ⟨⟨X0, X1, X2, X3, X4, X5, X6⟩, XT⟩ := X
        dsimp only at *
        generalize nameB X0 = Q1 at *
        obtain ⟨W2, hW2⟩ : ∃ W2, W2 = wr.alloc (.cells #[.string X0, .int .u32 (z : Int), .int .i64 X2, .int .i64 X3, .slice X4 X5 X6] 58) := ⟨_, rfl⟩
        have b2 : Below wr.heap.size wr W2 := by rw [hW2]; exact below_lit _ _
        have u0 : W2.cell? ⟨wr.heap.size, 0, none⟩ = some (.string X0) := by rw [hW2]; exact lit_cell _ _ _ _ _ rfl
        have u1 : W2.cell? ⟨wr.heap.size, 1, none⟩ = some (.int .u32 (z : Int)) := by rw [hW2]; exact lit_cell _ _ _ _ _ rfl
        have u2 : W2.cell? ⟨wr.heap.size, 2, none⟩ = some (.int .i64 X2) := by rw [hW2]; exact lit_cell _ _ _ _ _ rfl
        have u3 : W2.cell? ⟨wr.heap.size, 3, none⟩ = some (.int .i64 X3) := by rw [hW2]; exact lit_cell _ _ _ _ _ rfl
        have u4 : W2.cell? ⟨wr.heap.size, 4, none⟩ = some (.slice X4 X5 X6) := by rw [hW2]; exact lit_cell _ _ _ _ _ rfl
        have E4 := bnext Ew b2
        have kF2 : ∀ q, Calls Try.prog 9 #[.slice (some ⟨b, o, none⟩) j pc, .string X0] (W2.drewN q) fun e w' => e = FRet (pi ((M.map (·.1)).take j) X0) ∧ w' = W2.drewN q := fun q => kF _ (below_drewN E4 q)
        clear kF
        have yw := y1
        replace y0 := stay b2 y0
        replace y1 := stay b2 y1
        replace y2 := stay b2 y2
        have lz := World.block_lt_of_cell? W2 _ u0
        have lyz := World.block_lt_of_cell? W2 _ y1
        obtain ⟨vi, hvi⟩ := FRet_form (pi ((M.map (·.1)).take j) X0)
        rw [hvi] at kF2
        replace hvi := hid hvi
        generalize hPI : pi ((M.map (·.1)).take j) X0 = PI at *
        replace hPI := hid hPI
        have hj0 : (0 : Int) ≤ (j : Int) := by omega
        have hmle := hC.out.mle
        have hjc : (j : Int) ≤ (pc : Int) := by omega
        have hjk : (j : Int) < (pn : Int) := by omega
        replace hW2 := hid hW2
        have B2 := bnext hb b2
        go_wp2_with fail
        rw [← hW2.out]
        clear x0 x1 x2 x3 x4
        cases PI with
        | some i0 =>
          have hs := hbad (fun h => by cases h.1)
          clear hstep hbad
          rw [show (some i0).isSome = true from rfl] at kF2
          go_quiet (first | (go_at_call 9; exact Calls.quiet_of_same (kF2 _)))
          go_wp2
          go_ret
          exact ⟨ret_bool hs.out.symm, below_drewN E4 _⟩
        | none =>
          rw [show (none : Option Nat).isSome = false from rfl] at kF2
          go_quiet (first | (go_at_call 9; exact Calls.quiet_of_same (kF2 _)))
          have dq := below_drewN (Below.refl W2.heap.size W2) nq
          replace E4 := bnext E4 dq
          replace B2 := bnext B2 dq
          replace u0 := stay dq u0
          replace u1 := stay dq u1
          replace u2 := stay dq u2
          replace u3 := stay dq u3
          replace u4 := stay dq u4
          replace y0 := stay dq y0
          replace y1 := stay dq y1
          replace y2 := stay dq y2
          clear kF2 hW2 b2 lz lyz
          generalize W2.drewN nq = W4 at *
          have lz := World.block_lt_of_cell? W4 _ u0
          have lyz := World.block_lt_of_cell? W4 _ y1
          cases Q1 with
          | false =>
            have hs := hbad (fun h => by simp at h)
            clear hstep hbad
            go_wp2_with fail
            refine (kM _).mono ?_
            rintro e w5 ⟨rfl, rfl⟩
            go_wp2
            go_ret
            exact ⟨ret_bool hs.out.symm, E4⟩
          | true =>
            by_cases z0 : z = 0
            · have hs := hbad (fun h => by simp [z0] at h)
              clear hstep hbad
              subst z0
              go_wp2_with fail
              refine (kM _).mono ?_
              rintro e w5 ⟨rfl, rfl⟩
              go_wp2
              go_ret
              exact ⟨ret_bool hs.out.symm, E4⟩
            have z0' : ((z : Int) == 0) = false := beq_eq_false_iff_ne.2 (by omega)
            go_wp2_with fail
            refine (kM _).mono ?_
            rintro e w5 ⟨rfl, rfl⟩
            by_cases zu : ¬ z &&& (4294967295 - U) = 0
            · have hs := hbad (fun h => by simp [zu] at h)
              rw [decide_eq_false zu] at kW
              clear hstep hbad
              go_wp2_with fail
              refine (kW _).mono ?_
              rintro e w6 ⟨rfl, rfl⟩
              go_wp2
              go_ret
              exact ⟨ret_bool hs.out.symm, E4⟩
            replace zu : z &&& (4294967295 - U) = 0 := by omega
            rw [decide_eq_true zu] at kW
            rw [decide_eq_true zu, decide_eq_false z0] at hstep hbad
            replace zu := hid zu
            go_wp2_with fail
            refine (kW _).mono ?_
            rintro e w6 ⟨rfl, rfl⟩
            by_cases r1 : X2 < 0
            · have r1' : ¬ 0 ≤ X2 := by omega
              have hs := hbad (fun h => by simp [r1'] at h)
              clear hstep hbad
              go_wp2
              go_ret
              exact ⟨ret_bool hs.out.symm, E4⟩
            by_cases r2 : 1000 < X2
            · have r2' : ¬ X2 ≤ 1000 := by omega
              have hs := hbad (fun h => by simp [r2'] at h)
              clear hstep hbad
              go_wp2
              go_ret
              exact ⟨ret_bool hs.out.symm, E4⟩
            by_cases r3 : X3 < 1
            · have r3' : ¬ 1 ≤ X3 := by omega
              have hs := hbad (fun h => by simp [r3'] at h)
              clear hstep hbad
              go_wp2
              go_ret
              exact ⟨ret_bool hs.out.symm, E4⟩
            by_cases r4 : 1048576 < X3
            · have r4' : ¬ X3 ≤ 1048576 := by omega
              have hs := hbad (fun h => by simp [r4'] at h)
              clear hstep hbad
              go_wp2
              go_ret
              exact ⟨ret_bool hs.out.symm, E4⟩
            have r1' : 0 ≤ X2 := by omega
            have r2' : X2 ≤ 1000 := by omega
            have r3' : 1 ≤ X3 := by omega
            have r4' : X3 ≤ 1048576 := by omega
            cases Q7 with
            | false =>
              have hs := hbad (fun h => by simp at h)
              clear hstep hbad r1' r2' r3' r4'
              go_wp2_with fail
              refine (kL _ E4).mono ?_
              rintro e w7 ⟨rfl, hb7⟩
              go_wp2
              go_ret
              exact ⟨ret_bool hs.out.symm, bnext E4 hb7⟩
            | true =>
              have g1 : decide (X2 < 0) = false := decide_eq_false r1
              have g2 : decide (1000 < X2) = false := decide_eq_false r2
              have g3 : decide (X3 < 1) = false := decide_eq_false r3
              have g4 : decide (1048576 < X3) = false := decide_eq_false r4
              have hs := hstep ⟨trivial, by simp [r1', r2', r3', r4']⟩
              clear hstep hbad r1' r2' r3' r4'
              go_wp2_with fail
              refine (kL _ E4).mono ?_
              rintro e w7 ⟨rfl, hb7⟩
              go_wp2_with fail
              go_roundw
              case rel => exact ⟨j + 1, by omega, by go_num, hs, bnext B2 hb7⟩
              case measure => simp [intOf]; omega
      · have hje : j = pn := by omega
        subst hje
        have hf := hid (show rcB Z M A Q pol = true by rw [hfin.out]; exact decide_eq_true ⟨by rw [hml.out]; omega, by rw [hml.out]; omega, by rw [hml.out]; exact hok.out⟩)
        go_wp2
        go_ret
        exact ⟨ret_bool hf.out.symm, Ew⟩

end Go.Proofs.Ytilncacmkfohdaa
