/- Whether a config is right; what may be asked for. -/
import Derived.Test.YtflapjehkgefdaaGreatPd
namespace Go.Proofs.YtflapjehkgefdaaGreat
open Go.RowKit

/-- A right config. -/
def rcB (Z : List Int) (M : List (Prt × List ByteArray)) (A : List Acc) (Q : List Qu) (pol : Int) : Bool := confB A Q && decide ((Nd.newP Z).2 = 0) && partsB Z.length A M && polB pol

set_option maxRecDepth 100000 in
set_option maxHeartbeats 1000000 in
theorem prt_any (ca pa aa qa : Option Addr) (cn cc pn pc ak az qk qc : Nat) (pol : Int) (Z : List Int) (M : List (Prt × List ByteArray)) (A : List Acc) (Q : List Qu) (w : World) (hC : CfR w ca pa aa qa cn pn ak az qk Z M A Q) :
    Calls Tryz.prog 36 #[.agg #[.slice ca cn cc, .slice pa pn pc, .slice aa ak az, .slice qa qk qc, .int .u8 pol]] w fun e w' => e = .returned (.bool (rcB Z M A Q pol)) ∧ Below w.heap.size w w' := by
  obtain ⟨W1, hW1⟩ : ∃ W1, W1 = w.alloc (.cells #[.slice ca cn cc, .slice pa pn pc, .slice aa ak az, .slice qa qk qc, .int .u8 pol] 28) := ⟨_, rfl⟩
  have b1 : Below w.heap.size w W1 := by rw [hW1]; exact below_lit _ _
  have v0 : W1.cell? ⟨w.heap.size, 0, none⟩ = some (.slice ca cn cc) := by rw [hW1]; exact lit_cell _ _ _ _ _ rfl
  have v1 : W1.cell? ⟨w.heap.size, 1, none⟩ = some (.slice pa pn pc) := by rw [hW1]; exact lit_cell _ _ _ _ _ rfl
  have v2 : W1.cell? ⟨w.heap.size, 2, none⟩ = some (.slice aa ak az) := by rw [hW1]; exact lit_cell _ _ _ _ _ rfl
  have v3 : W1.cell? ⟨w.heap.size, 3, none⟩ = some (.slice qa qk qc) := by rw [hW1]; exact lit_cell _ _ _ _ _ rfl
  have v4 : W1.cell? ⟨w.heap.size, 4, none⟩ = some (.int .u8 pol) := by rw [hW1]; exact lit_cell _ _ _ _ _ rfl
  have k1 := conf_any ca pa aa qa cn cc pn pc ak az qk qc pol A Q W1 hC.al hC.ale hC.ql (hC.aat.below b1) (hC.qat.below b1)
  have k2 := fun w' (hb : Below w.heap.size w w') => cores_any ca cn cc Z w' hC.il hC.ib (hC.iat.below hb)
  have k3 := fun w' (hb : Below w.heap.size w w') => parts_any ca pa aa qa cn cc pn pc ak az qk qc pol Z M A Q w' (hC.below hb)
  have k4 := fun w' => policy_any pol w'
  have hq := hid (show rcB Z M A Q pol = (confB A Q && decide ((Nd.newP Z).2 = 0) && partsB cn A M && polB pol) by unfold rcB; rw [hC.il])
  have hlt := World.block_lt_of_cell? W1 _ v0
  replace hC := hid hC
  generalize confB A Q = Q1 at *
  generalize decide ((Nd.newP Z).2 = 0) = Q2 at *
  generalize partsB cn A M = Q3 at *
  generalize polB pol = Q4 at *
  generalize rcB Z M A Q pol = R at *
  replace hW1 := hid hW1
  go_enter Tryz.func36, Tryz.ntmps36
  go_wp2_with fail
  rw [← hW1.out]
  refine k1.mono ?_
  rintro e w1 ⟨rfl, hb1⟩
  have D1 := bnext b1 hb1
  replace v0 := stay hb1 v0
  replace v1 := stay hb1 v1
  replace v2 := stay hb1 v2
  replace v3 := stay hb1 v3
  replace v4 := stay hb1 v4
  replace hlt := World.block_lt_of_cell? w1 _ v0
  clear k1 hb1 b1
  cases Q1 with
  | false =>
    go_wp2
    go_ret
    exact ⟨ret_bool hq.out.symm, D1⟩
  | true =>
    go_wp2_with fail
    refine (k2 _ D1).mono ?_
    rintro e w2 ⟨rfl, hb2⟩
    have D2 := bnext D1 hb2
    replace v0 := stay hb2 v0
    replace v1 := stay hb2 v1
    replace v2 := stay hb2 v2
    replace v3 := stay hb2 v3
    replace v4 := stay hb2 v4
    replace hlt := World.block_lt_of_cell? w2 _ v0
    clear k2 hb2 D1
    cases Q2 with
    | false =>
      go_wp2
      go_ret
      exact ⟨ret_bool hq.out.symm, D2⟩
    | true =>
      go_wp2_with fail
      refine (k3 _ D2).mono ?_
      rintro e w3 ⟨rfl, hb3⟩
      have D3 := bnext D2 hb3
      replace v4 := stay hb3 v4
      replace hlt := World.block_lt_of_cell? w3 _ v4
      clear k3 hb3 D2 v0 v1 v2 v3
      cases Q3 with
      | false =>
        go_wp2
        go_ret
        exact ⟨ret_bool hq.out.symm, D3⟩
      | true =>
        go_wp2_with fail
        refine (k4 _).mono ?_
        rintro e w4 ⟨rfl, rfl⟩
        cases Q4 with
        | false =>
          go_wp2
          go_ret
          exact ⟨ret_bool hq.out.symm, D3⟩
        | true =>
          go_wp2
          go_ret
          exact ⟨ret_bool hq.out.symm, D3⟩

/-- What may be asked for in some config. -/
def askB (s : Spc) : Bool := nameB s.user && decide (1 ≤ s.nodes) && decide (s.nodes ≤ 32) && decide (1 ≤ s.cores) && decide (s.cores ≤ 64) && decide (1 ≤ s.lim)

/-- What is answered to a spec. -/
def chkP (Z : List Int) (M : List (Prt × List ByteArray)) (A : List Acc) (Q : List Qu) (pol : Int) (s : Spc) : Int :=
  if rcB Z M A Q pol = false then 250 else if askB s = false then 2 else
  match pi (M.map (·.1)) s.part with
  | none => 141
  | some i => if (fi A s.acct).isSome = false then 141 else if (qi Q s.qos).isSome = false then 141 else
    if admB A (mAt M i).2 s.acct = false then 160 else if (mAt M i).1.most < s.lim then 150 else if fitB Z (mAt M i).1.nodes.toNat s.nodes s.cores = false then 150 else 0

theorem set_in {cn s : Nat} (hs : s < 4294967296) (h : setB cn s = true) : ∀ i, s.testBit i = true → i < cn := by
  intro i hi
  unfold setB at h
  rw [Bool.and_eq_true, decide_eq_true_eq, decide_eq_true_eq] at h
  have h2 := List.eq_nil_of_length_eq_zero h.2
  rcases Nat.lt_or_ge i cn with h3 | h3
  · exact h3
  · have : i ∈ (Nd.lst s).filter (strB cn) := List.mem_filter.2 ⟨Nd.mem_lst.2 ⟨Nd.bit_lt hs hi, hi⟩, decide_eq_true h3⟩
    rw [h2] at this; cases this

theorem rc_part {Z : List Int} {M : List (Prt × List ByteArray)} {A : List Acc} {Q : List Qu} {pol : Int} (h : rcB Z M A Q pol = true) {i : Nat} (hi : i < M.length) : partB Z.length A (mAt M i).1 (mAt M i).2 = true := by
  unfold rcB at h
  rw [Bool.and_eq_true, Bool.and_eq_true] at h
  have := of_decide_eq_true h.1.2
  exact (this.2.2 i hi).2

theorem part_set {cn : Nat} {A : List Acc} {p : Prt} {T : List ByteArray} (h : partB cn A p T = true) : setB cn p.nodes.toNat = true := by
  unfold partB at h
  simp only [Bool.and_eq_true] at h
  exact h.1.1.1.1.1.2

end Go.Proofs.YtflapjehkgefdaaGreat
