/- The place that is found, plain: it can be taken, and keeps out of all blocks; how open nodes are told otherwise. -/
import Derived.Test.YticlpjpbjgfgmaaBack
namespace Go.Proofs.Yticlpjpbjgfgmaa
open Nd (cnt lst lstk lowk ofN)

abbrev meets (b : BlkP) (A : AskP) (t : Int) : Prop := b.f < t + A.limit ∧ t < b.t

/-- The free nodes without those of the first j blocks that meet the window. -/
def mB (P : List (List Cut)) (A : AskP) (t : Int) : Nat → Nat
  | 0 => freeS P A.nodes t (t + A.limit) A.cores
  | j + 1 => if meets (bk A.bs j) A t then mB P A t j &&& (4294967295 - (bk A.bs j).nodes) else mB P A t j

theorem mB_yes {P : List (List Cut)} {A : AskP} {t : Int} {j : Nat} (h : meets (bk A.bs j) A t) : mB P A t (j + 1) = mB P A t j &&& (4294967295 - (bk A.bs j).nodes) := if_pos h
theorem mB_no {P : List (List Cut)} {A : AskP} {t : Int} {j : Nat} (h : ¬ meets (bk A.bs j) A t) : mB P A t (j + 1) = mB P A t j := if_neg h

theorem mB_lt {P : List (List Cut)} {A : AskP} {t : Int} (hP : P.length ≤ 32) (j : Nat) : mB P A t j < 4294967296 := by
  induction j with
  | zero => exact gset_lt _ _ hP
  | succ j ih =>
    unfold mB
    split
    · exact Nat.lt_of_le_of_lt Nat.and_le_left ih
    · exact ih

def hitB (b : BlkP) (A : AskP) (t : Int) (i : Nat) : Bool := b.nodes.testBit i && (decide (b.f < t + A.limit) && decide (t < b.t))

theorem mB_bit {P : List (List Cut)} {A : AskP} {t : Int} (hbs : ∀ b ∈ A.bs, b.nodes < 4294967296) {i : Nat} (hi : i < 32) : ∀ j, j ≤ A.bs.length → (mB P A t j).testBit i = ((freeS P A.nodes t (t + A.limit) A.cores).testBit i && !((A.bs.take j).any fun b => hitB b A t i)) := by
  intro j
  induction j with
  | zero => intro _; simp [mB]
  | succ j ih =>
    intro hj
    have hjl : j < A.bs.length := by omega
    have hb := hbs (bk A.bs j) (by rw [← bk_eq hjl]; exact List.getElem_mem _)
    have e : A.bs.take (j + 1) = A.bs.take j ++ [bk A.bs j] := by rw [List.take_add_one, List.getElem?_eq_getElem hjl, bk_eq hjl]; rfl
    rw [e, List.any_append]
    simp only [List.any_cons, List.any_nil, Bool.or_false]
    by_cases hm : meets (bk A.bs j) A t
    · rw [mB_yes hm, Nat.testBit_and, Nd.bit_not _ hb i hi, ih (by omega)]
      have : hitB (bk A.bs j) A t i = (bk A.bs j).nodes.testBit i := by unfold hitB; rw [decide_eq_true hm.1, decide_eq_true hm.2]; simp
      rw [this]
      cases (freeS P A.nodes t (t + A.limit) A.cores).testBit i <;> cases (A.bs.take j).any (fun b => hitB b A t i) <;> cases (bk A.bs j).nodes.testBit i <;> rfl
    · rw [mB_no hm, ih (by omega)]
      have : hitB (bk A.bs j) A t i = false := by
        unfold hitB
        by_cases h1 : (bk A.bs j).f < t + A.limit
        · have h2 : ¬ t < (bk A.bs j).t := fun h => hm ⟨h1, h⟩
          rw [decide_eq_false h2]; simp
        · rw [decide_eq_false h1]; simp
      rw [this, Bool.or_false]

theorem mB_opn {P : List (List Cut)} {A : AskP} {t : Int} (hP : P.length ≤ 32) (hbs : ∀ b ∈ A.bs, b.nodes < 4294967296) : mB P A t A.bs.length = opn P A t := by
  refine Nd.ext32 (mB_lt hP _) (gset_lt _ _ hP) fun i hi => ?_
  rw [mB_bit hbs hi _ (Nat.le_refl _), List.take_length]
  unfold opn freeS
  rw [gset_bit, gset_bit]
  have : (!shutB (P.getD i []) i A t) = (decide (A.cores ≤ lsT (P.getD i []) t (t + A.limit) (P.getD i []).length) && !(A.bs.any fun b => hitB b A t i)) := by
    unfold shutB
    rw [Bool.not_or]
    congr 1
    by_cases h : A.cores ≤ lsT (P.getD i []) t (t + A.limit) (P.getD i []).length
    · rw [decide_eq_true h, decide_eq_false (by omega)]; rfl
    · rw [decide_eq_false h, decide_eq_true (by omega)]; rfl
  rw [this]
  simp only [Bool.and_assoc]

theorem opn_bit {P : List (List Cut)} {A : AskP} {t : Int} {i : Nat} (h : (opn P A t).testBit i = true) : i < P.length ∧ A.nodes.testBit i = true ∧ shutB (P.getD i []) i A t = false := by
  unfold opn at h
  rw [gset_bit] at h
  simp only [Bool.and_eq_true, decide_eq_true_eq, Bool.not_eq_true'] at h
  exact h

theorem low_bit {s n i : Nat} (h : (lowk s n 32).testBit i = true) : s.testBit i = true := by
  unfold lowk at h
  rw [Nd.ofN_bit, decide_eq_true_eq] at h
  exact (Nd.mem_lstk.1 (List.mem_of_mem_take h)).2

/-- The place that was found. -/
structure Found (P : List (List Cut)) (A : AskP) (t : Int) (on : Nat) : Prop where
  lt : on < 4294967296
  cnt_ : (cnt on : Int) = A.count
  bit : ∀ i, on.testBit i = true → i < P.length ∧ A.nodes.testBit i = true ∧ shutB (P.getD i []) i A t = false
  from_ : A.fr ≤ t
  hi : t ≤ maxT

theorem found_of {P : List (List Cut)} {A : AskP} {t : Int} {on : Nat} (hA : RightAsk A) (h : FitIs P A t on 0) : Found P A t on := by
  rcases h with ⟨_, h2, h3, h4, h5, _⟩ | ⟨h1, _⟩
  · have hlst : lst (lowk (opn P A t) A.count.toNat 32) = (lst (opn P A t)).take A.count.toNat := Nd.lst_low _ _
    refine ⟨by rw [h5]; exact Nd.lowk_lt _ _ (Nat.le_refl _), ?_, fun i hi => opn_bit (low_bit (by rw [← h5]; exact hi)), h2, h3⟩
    have : cnt on = min A.count.toNat (cnt (opn P A t)) := by rw [h5]; unfold cnt; rw [hlst, List.length_take]
    have := hA.1.1
    omega
  · cases h1

theorem shut_no {C : List Cut} {node : Nat} {A : AskP} {t : Int} (h : shutB C node A t = false) : A.cores ≤ lsT C t (t + A.limit) C.length ∧ ∀ b ∈ A.bs, meets b A t → b.nodes.testBit node = false := by
  unfold shutB at h
  rw [Bool.or_eq_false_iff] at h
  refine ⟨by have := of_decide_eq_false h.1; omega, fun b hb hm => ?_⟩
  have := List.any_eq_false.1 h.2 b hb
  cases hbit : b.nodes.testBit node
  · rfl
  · rw [hbit, decide_eq_true hm.1, decide_eq_true hm.2] at this
    exact absurd rfl this

theorem Found.may {P : List (List Cut)} {A : AskP} {t : Int} {on : Nat} (h : Found P A t on) (hr : RightPr P) (hA : RightAsk A) : mayP P on A.cores t (t + A.limit) := by
  have h1 := hA.2.1
  have h2 := hA.2.2.1
  have h3 := hA.2.2.2.1
  have h4 := h.from_
  have h5 := h.hi
  refine ⟨hr, (wiB_iff h.lt hr.2.1).2 fun i hi => (h.bit i hi).1, by omega, by omega, by omega, ?_⟩
  simp only [maxT] at h5
  omega

/-- It can be taken, but for too many cuts. -/
theorem Found.take {P : List (List Cut)} {A : AskP} {t : Int} {on : Nat} (h : Found P A t on) (hr : RightPr P) (hA : RightAsk A) : (takeA P on A.cores t (t + A.limit)).2 = 0 ∨ (takeA P on A.cores t (t + A.limit)).2 = 5 := by
  have hm := h.may hr hA
  unfold takeA
  rw [if_pos hm]
  unfold adA
  split
  · rename_i i hi
    rw [List.find?_range_eq_some] at hi
    obtain ⟨h1, h2, _⟩ := hi
    rw [List.mem_range] at h2
    have hC : RightP (P.getD i []) := hr.2.2 _ (getD_mem h2)
    show (nodeA P on (-A.cores) t (t + A.limit) i).2 = 0 ∨ (nodeA P on (-A.cores) t (t + A.limit) i).2 = 5
    unfold nodeA
    cases hb : on.testBit i
    · exact .inl rfl
    · rw [if_pos rfl]
      have hl := (shut_no (h.bit i hb).2.2).1
      have harg : argP (P.getD i []) t (t + A.limit) (-A.cores) := ⟨hC, hm.2.2.2, by have := hA.2.1; omega⟩
      have hls := ls_least hC hm.2.2.2.1 hm.2.2.2.2.1 hm.2.2.2.2.2
      have hd := add_ds hC hm.2.2.2.1 hm.2.2.2.2.1 hm.2.2.2.2.2 (n := -A.cores)
      have hno : (addP (P.getD i []) t (t + A.limit) (-A.cores)).2 = false := by
        cases ho : (addP (P.getD i []) t (t + A.limit) (-A.cores)).2
        · rfl
        · obtain ⟨u, u1, u2, u3⟩ := hd.over.1 ho
          exfalso
          apply u3
          have hv := hC.val_bd u1
          unfold gv
          split
          · rename_i hc
            have := hls.1 u hc.1 hc.2
            have := hA.2.1
            exact ⟨by omega, by omega⟩
          · exact ⟨by omega, by omega⟩
      unfold addA
      rw [if_pos harg, hno, if_neg (by simp)]
      split
      · exact .inr rfl
      · exact .inl rfl
  · exact .inl rfl

theorem Found.block {P : List (List Cut)} {A : AskP} {t : Int} {on : Nat} (h : Found P A t on) {b : BlkP} (hb : b ∈ A.bs) (hm : meets b A t) (hbn : b.nodes < 4294967296) : b.nodes &&& on = 0 := by
  refine Nd.ext32 (Nat.lt_of_le_of_lt Nat.and_le_left hbn) (by omega) fun i hi => ?_
  rw [Nat.testBit_and, Nat.zero_testBit]
  cases hc : on.testBit i
  · simp
  · rw [(shut_no (h.bit i hc).2.2).2 b hb hm]; rfl

theorem Found.within {P : List (List Cut)} {A : AskP} {t : Int} {on : Nat} (h : Found P A t on) (hn : A.nodes < 4294967296) : decide (on &&& (4294967295 - A.nodes) = 0) = true :=
  decide_eq_true ((Nd.in_all h.lt hn).2 fun i _ hi => (h.bit i hi).2.1)

end Go.Proofs.Yticlpjpbjgfgmaa
