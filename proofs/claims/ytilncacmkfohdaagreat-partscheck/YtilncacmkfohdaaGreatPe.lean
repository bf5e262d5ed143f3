/- Whether a config is right; what may be asked for. -/
import Derived.Test.YtilncacmkfohdaaGreatPd
namespace Go.Proofs.YtilncacmkfohdaaGreat
open Go.RowKit

theorem is70 (x : ByteArray) (k l m : Int) (g : Nat) (n : ByteArray) (w : World) (hg : w.cell? ⟨g, 0, none⟩ = some (.string n)) :
    Calls Tryz.prog 36 #[.agg #[.string x, .int .i64 k, .int .i64 l, .int .i64 m], ptr g] w fun r w' => r = .returned (.bool (decide (x = n))) ∧ Below w.heap.size w w' := by
  have hlt := World.block_lt_of_cell? w _ hg
  have hg2 := stay (below_lit w (.cells #[.string x, .int .i64 k, .int .i64 l, .int .i64 m] 82)) hg
  by_cases h : x = n
  · have h1 := text_eq h
    go_enter Tryz.func36, Tryz.ntmps36
    go_wp2
    go_ret
    exact ⟨rfl, below_lit _ _⟩
  · have h1 := text_ne h
    go_enter Tryz.func36, Tryz.ntmps36
    go_wp2
    go_ret
    exact ⟨rfl, below_lit _ _⟩

set_option maxRecDepth 100000 in
set_option maxHeartbeats 400000 in
theorem index88 (a : Option Addr) (k c g : Nat) (L : List Qu) (n : ByteArray) (w : World) (hn : L.length = k) (hl : k ≤ 4611686018427387904) (hat : QAt w a L) (hg : w.cell? ⟨g, 0, none⟩ = some (.string n)) :
    Calls Tryz.prog 62 #[.slice a k c, .func (.func 36) #[] #[ptr g]] w fun e w' => e = .returned (.int .i64 (plV (qi L n))) ∧ Below w.heap.size w w' := by
  replace hn := hid hn
  replace hat := hid hat
  replace hg := hid hg
  go_enter Tryz.func62, Tryz.ntmps62
  go_wp2_with fail
  go_loopw [8] (fun i wr => ∃ j : Nat, j ≤ k ∧ i = .int .i64 (j : Int) ∧ Hid (NoneToQ L n j) ∧ Below w.heap.size w wr) (fun i _ => k - (intOf i).toNat)
  case atStart => exact ⟨0, Nat.zero_le _, rfl, hid (fun i hi => by omega), Below.refl _ _⟩
  case round =>
    obtain ⟨j, hj, rfl, hok, hb⟩ := hrel
    by_cases hlt : j < k
    · have hjL : j < L.length := by rw [hn.out]; exact hlt
      obtain ⟨b, o, e⟩ := hat.out.place (by omega)
      subst e
      obtain ⟨x0, x1, x2, x3⟩ := (hat.out.below hb).one hjL
      have kS := is70 (quAt L j).1 (quAt L j).2.1 (quAt L j).2.2.1 (quAt L j).2.2.2 g n _ (stay hb hg.out)
      by_cases hB : (quAt L j).1 = n
      · have hf := hid ((qi_is L n j).2 ⟨hjL, hB, hok.out⟩)
        rw [decide_eq_true hB] at kS
        replace hB := hid hB
        replace hok := hid hok
        generalize quAt L j = X at *
        obtain ⟨X0, X1, X2, X3⟩ := X
        dsimp only at *
        go_wp2_with fail
        refine kS.mono ?_
        rintro e w1 ⟨rfl, hb1⟩
        have B1 := bnext hb hb1
        go_wp2
        go_ret
        rw [hf.out]
        exact ⟨rfl, B1⟩
      · have hok2 : Hid (NoneToQ L n (j + 1)) := hid fun i hi => by
          rcases Nat.lt_or_ge i j with h | h
          · exact hok.out i h
          · obtain rfl : i = j := by omega
            exact hB
        rw [decide_eq_false hB] at kS
        replace hB := hid hB
        replace hok := hid hok
        generalize quAt L j = X at *
        obtain ⟨X0, X1, X2, X3⟩ := X
        dsimp only at *
        go_wp2_with fail
        refine kS.mono ?_
        rintro e w1 ⟨rfl, hb1⟩
        have B1 := bnext hb hb1
        go_wp2_with fail
        go_roundw
        case rel => exact ⟨j + 1, by omega, by go_num, hok2, B1⟩
        case measure => simp [intOf]; omega
    · have hje : j = k := by omega
      subst hje
      have hf := hid ((qi_no L n).2 (by rw [hn.out]; exact hok.out))
      go_wp2
      go_ret
      rw [hf.out]
      exact ⟨rfl, hb⟩

theorem contf69 (a : Option Addr) (k c g : Nat) (L : List Qu) (n : ByteArray) (w : World) (hn : L.length = k) (hl : k ≤ 4611686018427387904) (hat : QAt w a L) (hg : w.cell? ⟨g, 0, none⟩ = some (.string n)) :
    Calls Tryz.prog 35 #[.slice a k c, .func (.func 36) #[] #[ptr g]] w fun e w' => e = .returned (.bool (qi L n).isSome) ∧ Below w.heap.size w w' := by
  have kI := index88 a k c g L n w hn hl hat hg
  replace hat := hid hat
  replace hn := hid hn
  replace hg := hid hg
  cases hq : qi L n with
  | none =>
    rw [hq] at kI
    simp only [plV] at kI
    go_enter Tryz.func35, Tryz.ntmps35
    go_wp2_with fail
    refine kI.mono ?_
    rintro e w1 ⟨rfl, hb1⟩
    go_wp2
    go_ret
    exact ⟨rfl, hb1⟩
  | some i =>
    rw [hq] at kI
    simp only [plV] at kI
    have hi : (0 : Int) ≤ (i : Int) := by omega
    go_enter Tryz.func35, Tryz.ntmps35
    go_wp2_with fail
    refine kI.mono ?_
    rintro e w1 ⟨rfl, hb1⟩
    go_wp2
    go_ret
    exact ⟨ret_bool (by simp), hb1⟩

theorem hasq_any (a : Option Addr) (k c : Nat) (L : List Qu) (n : ByteArray) (w : World) (hn : L.length = k) (hl : k ≤ 4611686018427387904) (hat : QAt w a L) :
    Calls Tryz.prog 13 #[.slice a k c, .string n] w fun e w' => e = .returned (.bool (qi L n).isSome) ∧ Below w.heap.size w w' := by
  have bl := below_lit w (.cells #[.string n] 9)
  have hc := cell_new w (.string n) 9
  have kF := contf69 a k c w.heap.size L n _ hn hl (hat.below bl) hc
  generalize (qi L n).isSome = r at *
  replace hn := hid hn
  replace hat := hid hat
  replace hc := hid hc
  go_enter Tryz.func13, Tryz.ntmps13
  go_wp2_with fail
  refine kF.mono ?_
  rintro e w1 ⟨rfl, hb1⟩
  go_wp2
  go_ret
  exact ⟨rfl, bnext bl hb1⟩

/-- A right config. -/
def rcB (Z : List Int) (M : List (Prt × List ByteArray)) (A : List Acc) (Q : List Qu) (pol : Int) : Bool := confB A Q && decide ((Nd.newP Z).2 = 0) && partsB Z.length A M && polB pol

set_option maxRecDepth 100000 in
set_option maxHeartbeats 1000000 in
theorem prt_any (ca pa aa qa : Option Addr) (cn cc pn pc ak az qk qc : Nat) (pol : Int) (Z : List Int) (M : List (Prt × List ByteArray)) (A : List Acc) (Q : List Qu) (w : World) (hC : CfR w ca pa aa qa cn pn ak az qk Z M A Q) :
    Calls Tryz.prog 10 #[.agg #[.slice ca cn cc, .slice pa pn pc, .slice aa ak az, .slice qa qk qc, .int .u8 pol]] w fun e w' => e = .returned (.bool (rcB Z M A Q pol)) ∧ Below w.heap.size w w' := by
  obtain ⟨W1, hW1⟩ : ∃ W1, W1 = w.alloc (.cells #[.slice ca cn cc, .slice pa pn pc, .slice aa ak az, .slice qa qk qc, .int .u8 pol] 28) := ⟨_, rfl⟩
  have b1 : Below w.heap.size w W1 := by rw [hW1]; exact below_lit _ _
  have v0 : W1.cell? ⟨w.heap.size, 0, none⟩ = some (.slice ca cn cc) := by rw [hW1]; exact lit_cell _ _ _ _ _ rfl
  have v1 : W1.cell? ⟨w.heap.size, 1, none⟩ = some (.slice pa pn pc) := by rw [hW1]; exact lit_cell _ _ _ _ _ rfl
  have v2 : W1.cell? ⟨w.heap.size, 2, none⟩ = some (.slice aa ak az) := by rw [hW1]; exact lit_cell _ _ _ _ _ rfl
  have v3 : W1.cell? ⟨w.heap.size, 3, none⟩ = some (.slice qa qk qc) := by rw [hW1]; exact lit_cell _ _ _ _ _ rfl
  have v4 : W1.cell? ⟨w.heap.size, 4, none⟩ = some (.int .u8 pol) := by rw [hW1]; exact lit_cell _ _ _ _ _ rfl
  have k1 := conf_any ca pa aa qa cn cc pn pc ak az qk qc pol A Q W1 hC.al hC.ale hC.ql (hC.aat.below b1) (hC.qat.below b1)
  have k2 := fun w' (hb : Below w.heap.size w w') => cores_any ca cn cc Z w' hC.il hC.ib (hC.iat.below hb)
  have k3 := fun w' (hb : Below w.heap.size w w') => parts_any ca pa aa qa cn cc pn pc ak az qk qc pol Z M A Q w' (hC.below hb)
  have k4 := fun w' => policy_any pol w'
  have hq := hid (show rcB Z M A Q pol = (confB A Q && decide ((Nd.newP Z).2 = 0) && partsB cn A M && polB pol) by unfold rcB; rw [hC.il])
  have hlt := World.block_lt_of_cell? W1 _ v0
  replace hC := hid hC
  generalize confB A Q = Q1 at *
  generalize decide ((Nd.newP Z).2 = 0) = Q2 at *
  generalize partsB cn A M = Q3 at *
  generalize polB pol = Q4 at *
  generalize rcB Z M A Q pol = R at *
  replace hW1 := hid hW1
  go_enter Tryz.func10, Tryz.ntmps10
  go_wp2_with fail
  rw [← hW1.out]
  refine k1.mono ?_
  rintro e w1 ⟨rfl, hb1⟩
  have D1 := bnext b1 hb1
  replace v0 := stay hb1 v0
  replace v1 := stay hb1 v1
  replace v2 := stay hb1 v2
  replace v3 := stay hb1 v3
  replace v4 := stay hb1 v4
  replace hlt := World.block_lt_of_cell? w1 _ v0
  clear k1 hb1 b1
  cases Q1 with
  | false =>
    go_wp2
    go_ret
    exact ⟨ret_bool hq.out.symm, D1⟩
  | true =>
    go_wp2_with fail
    refine (k2 _ D1).mono ?_
    rintro e w2 ⟨rfl, hb2⟩
    have D2 := bnext D1 hb2
    replace v0 := stay hb2 v0
    replace v1 := stay hb2 v1
    replace v2 := stay hb2 v2
    replace v3 := stay hb2 v3
    replace v4 := stay hb2 v4
    replace hlt := World.block_lt_of_cell? w2 _ v0
    clear k2 hb2 D1
    cases Q2 with
    | false =>
      go_wp2
      go_ret
      exact ⟨ret_bool hq.out.symm, D2⟩
    | true =>
      go_wp2_with fail
      refine (k3 _ D2).mono ?_
      rintro e w3 ⟨rfl, hb3⟩
      have D3 := bnext D2 hb3
      replace v4 := stay hb3 v4
      replace hlt := World.block_lt_of_cell? w3 _ v4
      clear k3 hb3 D2 v0 v1 v2 v3
      cases Q3 with
      | false =>
        go_wp2
        go_ret
        exact ⟨ret_bool hq.out.symm, D3⟩
      | true =>
        go_wp2_with fail
        refine (k4 _).mono ?_
        rintro e w4 ⟨rfl, rfl⟩
        cases Q4 with
        | false =>
          go_wp2
          go_ret
          exact ⟨ret_bool hq.out.symm, D3⟩
        | true =>
          go_wp2
          go_ret
          exact ⟨ret_bool hq.out.symm, D3⟩

/-- What may be asked for in some config. -/
def askB (s : Spc) : Bool := nameB s.user && decide (1 ≤ s.nodes) && decide (s.nodes ≤ 32) && decide (1 ≤ s.cores) && decide (s.cores ≤ 64) && decide (1 ≤ s.lim)

set_option maxRecDepth 100000 in
set_option maxHeartbeats 1000000 in
theorem asked_any (s : Spc) (w : World) : Calls Tryz.prog 11 #[.agg (sc s).toArray] w fun e w' => e = .returned (.bool (askB s)) ∧ Below w.heap.size w w' := by
  obtain ⟨s0, s1, s2, s3, nn, co, lm, da, dn, dc⟩ := s
  simp only [sc]
  obtain ⟨W1, hW1⟩ : ∃ W1, W1 = w.alloc (.cells #[.string s0, .string s1, .string s2, .string s3, .int .i64 nn, .int .i64 co, .int .i64 lm, .slice da dn dc] 31) := ⟨_, rfl⟩
  have b1 : Below w.heap.size w W1 := by rw [hW1]; exact below_lit _ _
  have v4 : W1.cell? ⟨w.heap.size, 4, none⟩ = some (.int .i64 nn) := by rw [hW1]; exact lit_cell _ _ _ _ _ rfl
  have v5 : W1.cell? ⟨w.heap.size, 5, none⟩ = some (.int .i64 co) := by rw [hW1]; exact lit_cell _ _ _ _ _ rfl
  have v6 : W1.cell? ⟨w.heap.size, 6, none⟩ = some (.int .i64 lm) := by rw [hW1]; exact lit_cell _ _ _ _ _ rfl
  have k1 := name_any s0 W1
  have hq := hid (show askB ⟨s0, s1, s2, s3, nn, co, lm, da, dn, dc⟩ = (nameB s0 && decide (1 ≤ nn) && decide (nn ≤ 32) && decide (1 ≤ co) && decide (co ≤ 64) && decide (1 ≤ lm)) from rfl)
  generalize askB ⟨s0, s1, s2, s3, nn, co, lm, da, dn, dc⟩ = R at *
  generalize nameB s0 = Q1 at *
  replace hW1 := hid hW1
  go_enter Tryz.func11, Tryz.ntmps11
  go_wp2_with fail
  rw [← hW1.out]
  refine k1.mono ?_
  rintro e w1 ⟨rfl, hb1⟩
  have D1 := bnext b1 hb1
  replace v4 := stay hb1 v4
  replace v5 := stay hb1 v5
  replace v6 := stay hb1 v6
  have hlt := World.block_lt_of_cell? w1 _ v4
  clear k1 hb1 b1
  cases Q1 with
  | false =>
    go_wp2
    go_ret
    exact ⟨ret_bool hq.out.symm, D1⟩
  | true =>
    by_cases h1 : 1 ≤ nn
    · have d1 : decide (1 ≤ nn) = true := by simpa using h1
      by_cases h2 : nn ≤ 32
      · have d2 : decide (nn ≤ 32) = true := by simpa using h2
        by_cases h3 : 1 ≤ co
        · have d3 : decide (1 ≤ co) = true := by simpa using h3
          by_cases h4 : co ≤ 64
          · have d4 : decide (co ≤ 64) = true := by simpa using h4
            by_cases h5 : 1 ≤ lm
            · have d5 : decide (1 ≤ lm) = true := by simpa using h5
              go_wp2
              go_ret
              exact ⟨ret_bool (by rw [hq.out, d1, d2, d3, d4, d5]; rfl), D1⟩
            · have d5 : decide (1 ≤ lm) = false := by simpa using h5
              go_wp2
              go_ret
              exact ⟨ret_bool (by rw [hq.out, d1, d2, d3, d4, d5]; rfl), D1⟩
          · have d4 : decide (co ≤ 64) = false := by simpa using h4
            go_wp2
            go_ret
            exact ⟨ret_bool (by rw [hq.out, d1, d2, d3, d4]; rfl), D1⟩
        · have d3 : decide (1 ≤ co) = false := by simpa using h3
          go_wp2
          go_ret
          exact ⟨ret_bool (by rw [hq.out, d1, d2, d3]; rfl), D1⟩
      · have d2 : decide (nn ≤ 32) = false := by simpa using h2
        go_wp2
        go_ret
        exact ⟨ret_bool (by rw [hq.out, d1, d2]; rfl), D1⟩
    · have d1 : decide (1 ≤ nn) = false := by simpa using h1
      go_wp2
      go_ret
      exact ⟨ret_bool (by rw [hq.out, d1]; rfl), D1⟩

/-- What is answered to a spec. -/
def chkP (Z : List Int) (M : List (Prt × List ByteArray)) (A : List Acc) (Q : List Qu) (pol : Int) (s : Spc) : Int :=
  if rcB Z M A Q pol = false then 250 else if askB s = false then 2 else
  match pi (M.map (·.1)) s.part with
  | none => 141
  | some i => if (fi A s.acct).isSome = false then 141 else if (qi Q s.qos).isSome = false then 141 else
    if admB A (mAt M i).2 s.acct = false then 160 else if (mAt M i).1.most < s.lim then 150 else if fitB Z (mAt M i).1.nodes.toNat s.nodes s.cores = false then 150 else 0

theorem set_in {cn s : Nat} (hs : s < 4294967296) (h : setB cn s = true) : ∀ i, s.testBit i = true → i < cn := by
  intro i hi
  unfold setB at h
  rw [Bool.and_eq_true, decide_eq_true_eq, decide_eq_true_eq] at h
  have h2 := List.eq_nil_of_length_eq_zero h.2
  rcases Nat.lt_or_ge i cn with h3 | h3
  · exact h3
  · have : i ∈ (Nd.lst s).filter (strB cn) := List.mem_filter.2 ⟨Nd.mem_lst.2 ⟨Nd.bit_lt hs hi, hi⟩, decide_eq_true h3⟩
    rw [h2] at this; cases this

theorem rc_part {Z : List Int} {M : List (Prt × List ByteArray)} {A : List Acc} {Q : List Qu} {pol : Int} (h : rcB Z M A Q pol = true) {i : Nat} (hi : i < M.length) : partB Z.length A (mAt M i).1 (mAt M i).2 = true := by
  unfold rcB at h
  rw [Bool.and_eq_true, Bool.and_eq_true] at h
  have := of_decide_eq_true h.1.2
  exact (this.2.2 i hi).2

theorem part_set {cn : Nat} {A : List Acc} {p : Prt} {T : List ByteArray} (h : partB cn A p T = true) : setB cn p.nodes.toNat = true := by
  unfold partB at h
  simp only [Bool.and_eq_true] at h
  exact h.1.1.1.1.1.2

end Go.Proofs.YtilncacmkfohdaaGreat
