/- order: priorities. -/
import Derived.Test.YtflapjehkgefdaaGreatPe
import Derived.Test.YtflapjehkgefdaaGreatCp2
import Derived.Deep.DeepCutAuto
namespace Go.Proofs.YtflapjehkgefdaaGreat
open Go.RowKit
set_option linter.unusedVariables false

theorem is29 (x : ByteArray) (k l m : Int) (g : Nat) (n : ByteArray) (w : World) (hg : w.cell? ⟨g, 2, none⟩ = some (.string n)) :
    Calls Tryz.prog 40 #[.agg #[.string x, .int .i64 k, .int .i64 l, .int .i64 m], ptr g] w fun r w' => r = .returned (.bool (decide (x = n))) ∧ Below w.heap.size w w' := by
  have hlt := World.block_lt_of_cell? w _ hg
  have hg2 := stay (below_lit w (.cells #[.string x, .int .i64 k, .int .i64 l, .int .i64 m] 64)) hg
  by_cases h : x = n
  · have h1 := text_eq h
    go_enter Tryz.func40, Tryz.ntmps40
    go_wp2
    go_ret
    exact ⟨rfl, below_lit _ _⟩
  · have h1 := text_ne h
    go_enter Tryz.func40, Tryz.ntmps40
    go_wp2
    go_ret
    exact ⟨rfl, below_lit _ _⟩

set_option maxRecDepth 100000 in
set_option maxHeartbeats 400000 in
theorem index28 (a : Option Addr) (k c g : Nat) (L : List Qu) (n : ByteArray) (w : World) (hn : L.length = k) (hl : k ≤ 4611686018427387904) (hat : QAt w a L) (hg : w.cell? ⟨g, 2, none⟩ = some (.string n)) :
    Calls Tryz.prog 39 #[.slice a k c, .func (.func 40) #[] #[ptr g]] w fun e w' => e = .returned (.int .i64 (plV (qi L n))) ∧ Below w.heap.size w w' := by
  replace hn := hid hn
  replace hat := hid hat
  replace hg := hid hg
  go_enter Tryz.func39, Tryz.ntmps39
  go_wp2_with fail
  go_loopw [8] (fun i wr => ∃ j : Nat, j ≤ k ∧ i = .int .i64 (j : Int) ∧ Hid (NoneToQ L n j) ∧ Below w.heap.size w wr) (fun i _ => k - (intOf i).toNat)
  case atStart => exact ⟨0, Nat.zero_le _, rfl, hid (fun i hi => by omega), Below.refl _ _⟩
  case round =>
    obtain ⟨j, hj, rfl, hok, hb⟩ := hrel
    by_cases hlt : j < k
    · have hjL : j < L.length := by rw [hn.out]; exact hlt
      obtain ⟨b, o, e⟩ := hat.out.place (by omega)
      subst e
      obtain ⟨x0, x1, x2, x3⟩ := (hat.out.below hb).one hjL
      have kS := is29 (quAt L j).1 (quAt L j).2.1 (quAt L j).2.2.1 (quAt L j).2.2.2 g n _ (stay hb hg.out)
      by_cases hB : (quAt L j).1 = n
      · have hf := hid ((qi_is L n j).2 ⟨hjL, hB, hok.out⟩)
        rw [decide_eq_true hB] at kS
        replace hB := hid hB
        replace hok := hid hok
        generalize quAt L j = X at *
        obtain ⟨X0, X1, X2, X3⟩ := X
        dsimp only at *
        go_wp2_with fail
        refine kS.mono ?_
        rintro e w1 ⟨rfl, hb1⟩
        have B1 := bnext hb hb1
        go_wp2
        go_ret
        rw [hf.out]
        exact ⟨rfl, B1⟩
      · have hok2 : Hid (NoneToQ L n (j + 1)) := hid fun i hi => by
          rcases Nat.lt_or_ge i j with h | h
          · exact hok.out i h
          · obtain rfl : i = j := by omega
            exact hB
        rw [decide_eq_false hB] at kS
        replace hB := hid hB
        replace hok := hid hok
        generalize quAt L j = X at *
        obtain ⟨X0, X1, X2, X3⟩ := X
        dsimp only at *
        go_wp2_with fail
        refine kS.mono ?_
        rintro e w1 ⟨rfl, hb1⟩
        have B1 := bnext hb hb1
        go_wp2_with fail
        go_roundw
        case rel => exact ⟨j + 1, by omega, by go_num, hok2, B1⟩
        case measure => simp [intOf]; omega
    · have hje : j = k := by omega
      subst hje
      have hf := hid ((qi_no L n).2 (by rw [hn.out]; exact hok.out))
      go_wp2
      go_ret
      rw [hf.out]
      exact ⟨rfl, hb⟩


/-- P21.1: a spec's priority, and the error. -/
def prioP (Z : List Int) (M : List (Prt × List ByteArray)) (A : List Acc) (Q : List Qu) (pol : Int) (qos part : ByteArray) : Int × Int :=
  if rcB Z M A Q pol = false then (0, 250) else
  match pi (M.map (·.1)) part, qi Q qos with
  | some i, some k => ((mAt M i).1.prio * 1001 + (quAt Q k).2.1, 0)
  | _, _ => (0, 141)
theorem rc_qual {Z : List Int} {M : List (Prt × List ByteArray)} {A : List Acc} {Q : List Qu} {pol : Int} (h : rcB Z M A Q pol = true) {i : Nat} (hi : i < Q.length) : 0 ≤ (quAt Q i).2.1 ∧ (quAt Q i).2.1 ≤ 1000 := by
  unfold rcB confB at h
  simp only [Bool.and_eq_true] at h
  have h2 := ((qright_is.1 h.1.1.1.2).2.2 i hi).2
  unfold qualB at h2
  simp only [Bool.and_eq_true, decide_eq_true_eq] at h2
  exact ⟨h2.1.1.1.2, h2.1.1.2⟩
theorem rc_prio {Z : List Int} {M : List (Prt × List ByteArray)} {A : List Acc} {Q : List Qu} {pol : Int} (h : rcB Z M A Q pol = true) {i : Nat} (hi : i < M.length) : 0 ≤ (mAt M i).1.prio ∧ (mAt M i).1.prio ≤ 1000 := by
  have h2 := rc_part h hi
  unfold partB at h2
  simp only [Bool.and_eq_true, decide_eq_true_eq] at h2
  exact ⟨h2.1.1.1.1.2, h2.1.1.1.2⟩
/-- The config in a block of its own. -/
structure CfB (w : World) (g : Nat) (ca pa aa qa : Option Addr) (cn cc pn pc ak az qk qc : Nat) (pol : Int) : Prop where
  v0 : w.cell? ⟨g, 0, none⟩ = some (.slice ca cn cc)
  v1 : w.cell? ⟨g, 1, none⟩ = some (.slice pa pn pc)
  v2 : w.cell? ⟨g, 2, none⟩ = some (.slice aa ak az)
  v3 : w.cell? ⟨g, 3, none⟩ = some (.slice qa qk qc)
  v4 : w.cell? ⟨g, 4, none⟩ = some (.int .u8 pol)
theorem CfB.below {w w' : World} {g : Nat} {ca pa aa qa : Option Addr} {cn cc pn pc ak az qk qc : Nat} {pol : Int} (h : CfB w g ca pa aa qa cn cc pn pc ak az qk qc pol) (hb : Below w.heap.size w w') : CfB w' g ca pa aa qa cn cc pn pc ak az qk qc pol :=
  ⟨stay hb h.v0, stay hb h.v1, stay hb h.v2, stay hb h.v3, stay hb h.v4⟩
theorem cfb_lit (w : World) (ca pa aa qa : Option Addr) (cn cc pn pc ak az qk qc : Nat) (pol : Int) : CfB (w.alloc (.cells #[.slice ca cn cc, .slice pa pn pc, .slice aa ak az, .slice qa qk qc, .int .u8 pol] 28)) w.heap.size ca pa aa qa cn cc pn pc ak az qk qc pol :=
  ⟨lit_cell _ _ _ _ _ rfl, lit_cell _ _ _ _ _ rfl, lit_cell _ _ _ _ _ rfl, lit_cell _ _ _ _ _ rfl, lit_cell _ _ _ _ _ rfl⟩

def PrioT (p : Int × Int) (w : World) (e : Ending) (w' : World) : Prop := e = .returned (.tuple #[.int .i64 p.1, .int .i64 p.2]) ∧ Below w.heap.size w w'
set_option maxRecDepth 100000 in
set_option maxHeartbeats 1000000 in
theorem rate_any (gR gC : Nat) (ca pa aa qa : Option Addr) (cn cc pn pc ak az qk qc : Nat) (pol : Int) (Z : List Int) (M : List (Prt × List ByteArray)) (A : List Acc) (Q : List Qu) (us ac qs ps : ByteArray) (n c l : Int) (da : Option Addr) (dn dc : Nat) (w : World)
    (hR : w.cell? ⟨gR, 0, none⟩ = some (.bool (rcB Z M A Q pol))) (hB : CfB w gC ca pa aa qa cn cc pn pc ak az qk qc pol) (hC : CfR w ca pa aa qa cn pn ak az qk Z M A Q) :
    Calls Tryz.prog 37 #[.agg #[.string us, .string ac, .string qs, .string ps, .int .i64 n, .int .i64 c, .int .i64 l, .slice da dn dc], ptr gR, ptr gC] w (PrioT (prioP Z M A Q pol qs ps) w) := by
  obtain ⟨W1, hW1⟩ : ∃ W1, W1 = w.alloc (.cells #[.string us, .string ac, .string qs, .string ps, .int .i64 n, .int .i64 c, .int .i64 l, .slice da dn dc] 32) := ⟨_, rfl⟩
  have b1 : Below w.heap.size w W1 := by rw [hW1]; exact below_lit _ _
  have s2 : W1.cell? ⟨w.heap.size, 2, none⟩ = some (.string qs) := by rw [hW1]; exact lit_cell _ _ _ _ _ rfl
  have s3 : W1.cell? ⟨w.heap.size, 3, none⟩ = some (.string ps) := by rw [hW1]; exact lit_cell _ _ _ _ _ rfl
  have r0 := stay b1 hR
  have hlt := World.block_lt_of_cell? W1 _ s2
  replace hB := hB.below b1
  replace hC := hC.below b1
  generalize hgS : w.heap.size = gS at *
  replace hgS := hid hgS
  cases hrc : rcB Z M A Q pol with
  | false =>
    rw [hrc] at r0
    have hf := hid (show prioP Z M A Q pol qs ps = (0, 250) by unfold prioP; rw [if_pos hrc])
    replace hrc := hid hrc
    replace hW1 := hid hW1
    replace b1 := hid b1
    clear hR hB hC
    go_enter Tryz.func37, Tryz.ntmps37
    go_upto_region 1 with fail
    rw [← hW1.out, hgS.out]
    go_wp2
    go_ret2
    rw [hf.out]
    exact ⟨rfl, by rw [hgS.out]; exact b1.out⟩
  | true =>
    rw [hrc] at r0
    have x1 := hB.v1
    have x3 := hB.v3
    have kF := pfind_any pa pn pc (M.map (·.1)) ps W1 (by rw [List.length_map]; exact hC.ml) hC.mb hC.mat
    have kI := fun (W2 : World) (h2 : Below W1.heap.size W1 W2) => index28 qa qk qc gS Q qs W2 hC.ql hC.qb (hC.qat.below h2) (stay h2 s2)
    replace kI := hid kI
    have hml := hid hC.ml
    have hql := hid hC.ql
    have hmat := hid hC.mat
    have hqat := hid hC.qat
    have hqs := hid (fun k (h : k < Q.length) => rc_qual hrc h)
    have hps := hid (fun k (h : k < M.length) => rc_prio hrc h)
    have hfd : Hid (prioP Z M A Q pol qs ps = match pi (M.map (·.1)) ps, qi Q qs with | some i, some k => ((mAt M i).1.prio * 1001 + (quAt Q k).2.1, 0) | _, _ => (0, 141)) := hid (by unfold prioP; rw [if_neg (by rw [hrc]; decide)])
    have hpl : ∀ i, pi (M.map (·.1)) ps = some i → i < M.length := fun i h => by have := pi_lt h; rwa [List.length_map] at this
    have hql2 : ∀ i, qi Q qs = some i → i < Q.length := fun i h => qi_lt h
    generalize prioP Z M A Q pol qs ps = R at hfd ⊢
    generalize pi (M.map (·.1)) ps = PI at kF hfd hpl
    generalize qi Q qs = QI at kI hfd hql2
    replace hpl := hid hpl
    replace hql2 := hid hql2
    replace hrc := hid hrc
    clear hR hB hC
    replace hW1 := hid hW1
    replace b1 := hid b1
    go_enter Tryz.func37, Tryz.ntmps37
    go_upto_region 1 with fail
    rw [← hW1.out, hgS.out]
    cases PI with
    | none =>
      have kF2 : Calls Tryz.prog 38 #[.slice pa pn pc, .string ps] W1 (fun e w' => e = .returned (.tuple #[.int .i64 0, .bool false]) ∧ Below W1.heap.size W1 w') := kF
      clear kF
      go_wp2_with fail
      refine kF2.mono ?_
      rintro e w2 ⟨rfl, h2⟩
      have kI2 := kI.out w2 h2
      replace x1 := stay h2 x1
      replace x3 := stay h2 x3
      have hlt2 := World.block_lt_of_cell? w2 _ x3
      clear kF2
      have B2 := hid (b1.out.trans (h2.mono (by omega)))
      have hs2 : gS < w2.heap.size := by have := h2.size; omega
      clear h2
      go_wp2_with fail
      refine kI2.mono ?_
      rintro e w3 ⟨rfl, h3⟩
      have B3 := hid (B2.out.trans (h3.mono (by omega)))
      clear kI2 h3
      go_wp2
      go_ret2
      rw [hfd.out]
      exact ⟨rfl, by rw [hgS.out]; exact B3.out⟩
    | some i =>
      have hi : i < M.length := hpl.out i rfl
      have kF2 : Calls Tryz.prog 38 #[.slice pa pn pc, .string ps] W1 (fun e w' => e = .returned (.tuple #[.int .i64 (i : Int), .bool true]) ∧ Below W1.heap.size W1 w') := kF
      clear kF
      go_wp2_with fail
      refine kF2.mono ?_
      rintro e w2 ⟨rfl, h2⟩
      have kI2 := kI.out w2 h2
      replace x1 := stay h2 x1
      replace x3 := stay h2 x3
      replace hmat := hid (hmat.out.below h2)
      replace hqat := hid (hqat.out.below h2)
      have hlt2 := World.block_lt_of_cell? w2 _ x3
      clear kF2
      have B2 := hid (b1.out.trans (h2.mono (by omega)))
      have hs2 : gS < w2.heap.size := by have := h2.size; omega
      clear h2
      cases QI with
      | none =>
        simp only [plV] at kI2
        go_wp2_with fail
        refine kI2.mono ?_
        rintro e w3 ⟨rfl, h3⟩
        have B3 := hid (B2.out.trans (h3.mono (by omega)))
        clear kI2 h3
        go_wp2
        go_ret2
        rw [hfd.out]
        exact ⟨rfl, by rw [hgS.out]; exact B3.out⟩
      | some k =>
        have hk : k < Q.length := hql2.out k rfl
        simp only [plV] at kI2
        go_wp2_with fail
        refine kI2.mono ?_
        rintro e w3 ⟨rfl, h3⟩
        have B3 := hid (B2.out.trans (h3.mono (by omega)))
        replace x1 := stay h3 x1
        replace x3 := stay h3 x3
        obtain ⟨pb, po, e1⟩ := hmat.out.place (by rw [List.length_map]; omega)
        obtain ⟨qb, qo, e2⟩ := hqat.out.place (by omega)
        subst e1 e2
        obtain ⟨_, _, y2, _⟩ := (hmat.out.below h3).one (i := i) (by rw [List.length_map]; exact hi)
        obtain ⟨_, z1, _⟩ := (hqat.out.below h3).one (i := k) hk
        rw [mAt_fst hi] at y2
        have bp := hps.out i hi
        have bq := hqs.out k hk
        clear kI2 h3
        generalize (mAt M i).1.prio = pr at y2 bp hfd
        generalize (quAt Q k).2.1 = qr at z1 bq hfd
        have w1' : IntKind.i64.wrap (pr * 1001) = pr * 1001 := by rw [IntKind.wrap_i64]; omega
        have w2' : IntKind.i64.wrap (pr * 1001 + qr) = pr * 1001 + qr := by rw [IntKind.wrap_i64]; omega
        have i1 : (i : Int) < (pn : Int) := by have := hml.out; omega
        have i2 : (k : Int) < (qk : Int) := by have := hql.out; omega
        have i3 : ¬ (k : Int) < 0 := by omega
        go_wp2_with fail
        go_quiet (fail)
        go_wp2
        go_ret2
        rw [hfd.out]
        exact ⟨rfl, by rw [hgS.out]; exact below_drewN B3.out _⟩
end Go.Proofs.YtflapjehkgefdaaGreat
