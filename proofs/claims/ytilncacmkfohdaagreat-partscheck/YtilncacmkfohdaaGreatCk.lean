/- What PartsCheck says, in plain words. -/
import Derived.Test.YtilncacmkfohdaaGreatPf
import Derived.Test.YtilncacmkfohdaaGreatPfFit
namespace Go.Proofs.YtilncacmkfohdaaGreat
open Go.RowKit

theorem ls_one {c a b : Int} (h0 : c ≤ 64) (hb : 0 < b) (ha : a < 9223372036854775807) : Pf.lsT [((0 : Int), c)] a b 1 = c := by
  rw [Pf.lsT_succ]
  have e1 : Pf.tm [((0 : Int), c)] 0 = 0 := rfl
  have e2 : Pf.fr [((0 : Int), c)] 0 = c := rfl
  have e3 : Pf.en [((0 : Int), c)] 0 = 9223372036854775807 := rfl
  have e4 : Pf.lsT [((0 : Int), c)] a b 0 = 1073741824 := rfl
  rw [e1, e2, e3, e4, if_pos ⟨hb, ha⟩]
  omega

def prP (Z : List Int) : List (List Pf.Cut) := Z.map fun c => [((0 : Int), c)]

theorem new_ok {Z : List Int} (h : (Nd.newP Z).2 = 0) : Pf.newP Z := by
  unfold Nd.newP at h
  by_cases hr : Nd.rightB (Nd.mkN Z) = true
  · obtain ⟨h1, h2⟩ := Nd.right_is hr
    rw [Nd.mkN_len] at h1
    refine ⟨h1.1, h1.2, fun x hx => ?_⟩
    have := h2 (x, true, 1) (List.mem_map.2 ⟨x, hx, rfl⟩)
    unfold Nd.nodB at this
    rw [decide_eq_true_eq] at this
    exact ⟨this.1, this.2.1⟩
  · rw [if_neg hr] at h; cases h
theorem new_pr {Z : List Int} (h : Pf.newP Z) : Pf.newA Z = (prP Z, 0) := by unfold Pf.newA; rw [if_pos h]; rfl

theorem pr_right {Z : List Int} (h : Pf.newP Z) : Pf.RightPr (prP Z) := by
  unfold prP
  refine ⟨by rw [List.length_map]; have := h.1; omega, by rw [List.length_map]; exact h.2.1, fun C hC => ?_⟩
  obtain ⟨c, hc, rfl⟩ := List.mem_map.1 hC
  have := h.2.2 c hc
  refine ⟨by simp, by simp, rfl, fun i hi => ?_⟩
  have hi0 : i = 0 := by simp at hi; omega
  subst hi0
  have e1 : Pf.tm [((0 : Int), c)] 0 = 0 := rfl
  have e2 : Pf.fr [((0 : Int), c)] 0 = c := rfl
  rw [e1, e2]
  exact ⟨by omega, by omega, fun h => by omega⟩

def askP (nn co lm : Int) (z : Nat) : Pf.AskP := ⟨nn, co, lm, 0, z, []⟩

theorem opn_bit {Z : List Int} (h : Pf.newP Z) {nn co lm : Int} {z : Nat} (hl : 1 ≤ lm ∧ lm ≤ 1048576) (i : Nat) : (Pf.opn (prP Z) (askP nn co lm z) 0).testBit i = (decide (i < Z.length) && (z.testBit i && greB Z co i)) := by
  unfold Pf.opn
  rw [Pf.gset_bit]
  have hlen : (prP Z).length = Z.length := by unfold prP; rw [List.length_map]
  rw [hlen]
  by_cases hi : i < Z.length
  · have hg : (prP Z).getD i [] = [((0 : Int), Z[i])] := by unfold prP; simp [List.getD, hi]
    have hc := h.2.2 Z[i] (List.getElem_mem hi)
    have hs : Pf.shutB ((prP Z).getD i []) i (askP nn co lm z) 0 = decide (Z[i] < co) := by
      unfold Pf.shutB
      rw [hg]
      have e1 : (askP nn co lm z).bs = [] := rfl
      have e2 : (askP nn co lm z).limit = lm := rfl
      have e3 : (askP nn co lm z).cores = co := rfl
      rw [e1, e2, e3, List.any_nil, Bool.or_false]
      rw [show [((0 : Int), Z[i])].length = 1 from rfl, ls_one (by omega) (by omega) (by omega)]
    rw [hs]
    have e4 : (!decide (Z[i] < co)) = greB Z co i := by
      unfold greB
      rw [← itAt_eq hi]
      by_cases hq : Z[i] < co
      · rw [decide_eq_true hq, decide_eq_false (by omega)]; rfl
      · rw [decide_eq_false hq, decide_eq_true (by omega)]; rfl
    rw [e4]; rfl
  · rw [decide_eq_false hi]; rfl

theorem opn_cnt {Z : List Int} (h : Pf.newP Z) {nn co lm : Int} {z : Nat} (hl : 1 ≤ lm ∧ lm ≤ 1048576) (hin : ∀ i, z.testBit i = true → i < Z.length) : Pf.Nd.cnt (Pf.opn (prP Z) (askP nn co lm z) 0) = cf z (greB Z co) := by
  unfold cf Pf.Nd.cnt Pf.Nd.lst Pf.Nd.lstk Nd.lst Nd.lstk
  rw [List.filter_filter]
  congr 1
  refine List.filter_congr fun i _ => ?_
  rw [opn_bit h hl]
  cases hb : z.testBit i with
  | false => simp
  | true => rw [decide_eq_true (hin i hb)]; simp

/-- The nodes that Fit tells. -/
def fitN (Z : List Int) (nn co lm : Int) (z : Nat) : Nat := Pf.Nd.lowk (Pf.opn (prP Z) (askP nn co lm z) 0) nn.toNat 32
theorem fitN_lt (Z : List Int) (nn co lm : Int) (z : Nat) : fitN Z nn co lm z < 4294967296 := Pf.Nd.lowk_lt _ _ (Nat.le_refl 32)
theorem fitN_in {Z : List Int} (h : Pf.newP Z) {nn co lm : Int} {z : Nat} (hz : z < 4294967296) (hl : 1 ≤ lm ∧ lm ≤ 1048576) : fitN Z nn co lm z &&& (4294967295 - z) = 0 := by
  rw [Nd.in_all (fitN_lt _ _ _ _ _) hz]
  intro i hi hb
  have h1 : i ∈ Pf.Nd.lst (fitN Z nn co lm z) := Pf.Nd.mem_lst.2 ⟨hi, hb⟩
  unfold fitN at h1
  rw [Pf.Nd.lst_low] at h1
  have h2 := (Pf.Nd.mem_lst.1 (List.mem_of_mem_take h1)).2
  rw [opn_bit h hl] at h2
  simp only [Bool.and_eq_true] at h2
  exact h2.2.1

theorem fit_now {Z : List Int} (h : Pf.newP Z) {nn co lm : Int} {z : Nat} (hn : 1 ≤ nn ∧ nn ≤ 32) (hc : 1 ≤ co ∧ co ≤ 64) (hl : 1 ≤ lm ∧ lm ≤ 1048576) (hin : ∀ i, z.testBit i = true → i < Z.length) (hf : fitB Z z nn co = true)
    {t : Int} {on : Nat} {e : Int} (hF : Pf.FitR (prP Z) (askP nn co lm z) t on e) : t = 0 ∧ on = fitN Z nn co lm z ∧ e = 0 := by
  have hcn := opn_cnt (nn := nn) (co := co) h hl hin
  have hge : nn ≤ ((cf z (greB Z co) : Nat) : Int) := of_decide_eq_true hf
  have hA : Pf.RightAsk (askP nn co lm z) := ⟨hn, hc, hl, ⟨by show (0 : Int) ≤ 0; omega, by show (0 : Int) ≤ 1099511627776; omega⟩, by show ([] : List Pf.BlkP).length ≤ 4096; simp, fun b hb => by cases hb⟩
  rcases hF with ⟨_, _, hF⟩ | ⟨hno, _⟩
  · rcases hF with ⟨rfl, h1, h2, h3, h4, h5⟩ | ⟨_, _, _, h5⟩
    · have h1' : (0 : Int) ≤ t := h1
      have ht : t = 0 := by
        rcases Int.lt_or_le 0 t with h6 | h6
        · have := h5 0 (by show (0 : Int) ≤ 0; omega) h6
          rw [hcn] at this
          have e5 : (askP nn co lm z).count = nn := rfl
          rw [e5] at this
          omega
        · omega
      subst ht
      exact ⟨rfl, h4, rfl⟩
    · have := h5 0 (by show (0 : Int) ≤ 0; omega) (by show (0 : Int) ≤ 1099511627776; omega)
      rw [hcn] at this
      have e5 : (askP nn co lm z).count = nn := rfl
      rw [e5] at this
      omega
  · exact absurd ⟨pr_right h, hA⟩ hno

theorem chk_ok {Z : List Int} {M : List (Prt × List ByteArray)} {A : List Acc} {Q : List Qu} {pol : Int} {s : Spc} (h : chkP Z M A Q pol s = 0) :
    rcB Z M A Q pol = true ∧ askB s = true ∧ ∃ i, pi (M.map (·.1)) s.part = some i ∧ (fi A s.acct).isSome = true ∧ (qi Q s.qos).isSome = true ∧ admB A (mAt M i).2 s.acct = true ∧ ¬ (mAt M i).1.most < s.lim ∧ fitB Z (mAt M i).1.nodes.toNat s.nodes s.cores = true := by
  unfold chkP at h
  cases h1 : rcB Z M A Q pol with
  | false => rw [h1] at h; simp at h
  | true =>
    cases h2 : askB s with
    | false => rw [h1, h2] at h; simp at h
    | true =>
      rw [h1, h2] at h
      simp only [Bool.true_eq_false, if_false] at h
      cases h3 : pi (M.map (·.1)) s.part with
      | none => rw [h3] at h; simp at h
      | some i =>
        rw [h3] at h
        simp only [] at h
        refine ⟨rfl, rfl, i, rfl, ?_⟩
        cases h4 : (fi A s.acct).isSome with
        | false => rw [h4] at h; simp at h
        | true =>
          cases h5 : (qi Q s.qos).isSome with
          | false => rw [h4, h5] at h; simp at h
          | true =>
            cases h6 : admB A (mAt M i).2 s.acct with
            | false => rw [h4, h5, h6] at h; simp at h
            | true =>
              rw [h4, h5, h6] at h
              simp only [Bool.true_eq_false, if_false] at h
              by_cases h7 : (mAt M i).1.most < s.lim
              · rw [if_pos h7] at h; cases h
              · rw [if_neg h7] at h
                cases h8 : fitB Z (mAt M i).1.nodes.toNat s.nodes s.cores with
                | false => rw [h8] at h; simp at h
                | true => exact ⟨rfl, rfl, rfl, h7, rfl⟩
theorem ok_chk {Z : List Int} {M : List (Prt × List ByteArray)} {A : List Acc} {Q : List Qu} {pol : Int} {s : Spc} {i : Nat} (h1 : rcB Z M A Q pol = true) (h2 : askB s = true) (h3 : pi (M.map (·.1)) s.part = some i) (h4 : (fi A s.acct).isSome = true) (h5 : (qi Q s.qos).isSome = true) (h6 : admB A (mAt M i).2 s.acct = true) (h7 : ¬ (mAt M i).1.most < s.lim) (h8 : fitB Z (mAt M i).1.nodes.toNat s.nodes s.cores = true) : chkP Z M A Q pol s = 0 := by
  unfold chkP
  rw [h1, h2, h3]
  simp only [Bool.true_eq_false, if_false]
  rw [h4, h5, h6, if_neg h7, h8]
  rfl
theorem cf_mono {z : Nat} {Z : List Int} {c d : Int} (h : d ≤ c) : cf z (greB Z c) ≤ cf z (greB Z d) := by
  unfold cf
  rw [← List.countP_eq_length_filter, ← List.countP_eq_length_filter]
  refine List.countP_mono_left fun i _ hi => ?_
  unfold greB at *
  rw [decide_eq_true_eq] at *
  omega
/-- One that asks for less is let in, too. -/
theorem chk_less {Z : List Int} {M : List (Prt × List ByteArray)} {A : List Acc} {Q : List Qu} {pol : Int} {s0 s1 s2 s3 : ByteArray} {nn co lm nn' co' lm' : Int} {da : Option Addr} {dn dc : Nat} (h : chkP Z M A Q pol ⟨s0, s1, s2, s3, nn, co, lm, da, dn, dc⟩ = 0)
    (hn : 1 ≤ nn' ∧ nn' ≤ nn) (hc : 1 ≤ co' ∧ co' ≤ co) (hl : 1 ≤ lm' ∧ lm' ≤ lm) : chkP Z M A Q pol ⟨s0, s1, s2, s3, nn', co', lm', da, dn, dc⟩ = 0 := by
  obtain ⟨h1, h2, i, h3, h4, h5, h6, h7, h8⟩ := chk_ok h
  refine ok_chk h1 ?_ h3 h4 h5 h6 ?_ ?_
  · unfold askB at *
    simp only [Bool.and_eq_true, decide_eq_true_eq] at *
    obtain ⟨⟨⟨⟨⟨g1, g2⟩, g3⟩, g4⟩, g5⟩, g6⟩ := h2
    exact ⟨⟨⟨⟨⟨g1, by omega⟩, by omega⟩, by omega⟩, by omega⟩, by omega⟩
  · dsimp only at *; omega
  · dsimp only at *
    unfold fitB at *
    rw [decide_eq_true_eq] at *
    have := cf_mono (z := (mAt M i).1.nodes.toNat) (Z := Z) hc.2
    omega

end Go.Proofs.YtilncacmkfohdaaGreat
