/- The document's Within and First; copies of numbers, and whether they are the same. -/
import Derived.Test.YticlpjpbjgfgmaaNdRef
namespace Go.Proofs.Yticlpjpbjgfgmaa.Nd
open Go.RowKit


theorem bit_not (x : Nat) (hx : x < 4294967296) (i : Nat) (hi : i < 32) : (4294967295 - x).testBit i = !x.testBit i := by
  have := Nat.testBit_two_pow_sub_succ (x := x) (n := 32) (by simpa using hx) i
  rw [show (2 : Nat) ^ 32 - (x + 1) = 4294967295 - x by omega] at this
  rw [this]; simp [hi]

/-- b has all of a's nodes below k. -/
def InTo (a b k : Nat) : Prop := ∀ i, i < k → a.testBit i = true → b.testBit i = true

theorem in_all {a b : Nat} (ha : a < 4294967296) (hb : b < 4294967296) : (a &&& (4294967295 - b) = 0) ↔ InTo a b 32 := by
  constructor
  · intro h i hi h1
    have := congrArg (fun x => x.testBit i) h
    simp only [Nat.testBit_and, bit_not b hb i hi, Nat.zero_testBit, h1, Bool.true_and] at this
    simpa using this
  · intro h
    refine ext32 (Nat.lt_of_le_of_lt Nat.and_le_left ha) (by omega) fun i hi => ?_
    rw [Nat.testBit_and, bit_not b hb i hi, Nat.zero_testBit]
    cases h1 : a.testBit i
    · rfl
    · rw [h i hi h1]; rfl

theorem of_take {s m : Nat} : ofP (L2 ((lst s).take m)) = (lowk s m 32, 0) := by
  have h1 : OkTo (L2 ((lst s).take m)) (L2 ((lst s).take m)).length := by
    intro n hn
    rw [List.take_length] at hn
    obtain ⟨x, hx, rfl⟩ := List.mem_map.1 hn
    have := (mem_lst.1 (List.take_subset _ _ hx)).1
    constructor
    · exact Int.natCast_nonneg x
    · show (x : Int) < 32; omega
  rw [ofP_ok h1]
  have h2 : (L2 ((lst s).take m)).map Int.toNat = (lst s).take m := by
    unfold L2
    rw [List.map_map]
    conv => rhs; rw [← List.map_id ((lst s).take m)]
    apply List.map_congr_left
    intro x _
    rfl
  rw [h2]
  rfl

theorem cat_take {w : World} {a : Option Addr} {Z : List Int} (h : CAt w a (Z.map I)) (k : Nat) : CAt w a ((Z.take k).map I) := by
  intro hne
  obtain ⟨b, o, e, hc⟩ := h (by intro e; apply hne; simp at e; simp [e])
  refine ⟨b, o, e, fun i hi => ?_⟩
  have hi2 : i < (Z.map I).length := by simp at hi ⊢; omega
  rw [hc i hi2]
  simp

set_option maxHeartbeats 800000 in
theorem firstr_any (s : Nat) (n : Int) (hs : s < 4294967296) (w : World) :
    Calls Try.prog 53 #[.int .u32 (s : Int), .int .i64 n] w fun e w' => e = .returned (.tuple #[.int .u32 ((firstP s n).1 : Int), .bool (firstP s n).2]) ∧ Below w.heap.size w w' := by
  have hc := cnt_le s
  have hlen : (L2 (lst s)).length = cnt s := by simp [L2, cnt]
  by_cases h1 : n < 0
  · have hf := hid (show firstP s n = (0, false) by unfold firstP; rw [if_pos (.inl h1)])
    have d1 : decide (n < 0) = true := by simpa using h1
    go_enter Try.func53, Try.ntmps53
    go_wp2_with fail
    refine (listr_any s hs _).mono ?_
    rintro e w1 ⟨v, rfl, ho, hb1⟩
    obtain ⟨a1, c1, rfl, hc1⟩ := owns_form ho
    go_wp2
    go_ret2
    rw [hf.out]
    exact ⟨rfl, hb1⟩
  · have d1 : decide (n < 0) = false := by simpa using h1
    by_cases h2 : (cnt s : Int) < n
    · have hf := hid (show firstP s n = (0, false) by unfold firstP; rw [if_pos (.inr h2)])
      have d2 : decide ((cnt s : Int) < n) = true := by simpa using h2
      go_enter Try.func53, Try.ntmps53
      go_wp2_with fail
      refine (listr_any s hs _).mono ?_
      rintro e w1 ⟨v, rfl, ho, hb1⟩
      obtain ⟨a1, c1, rfl, hc1⟩ := owns_form ho
      rw [hlen]
      go_wp2
      go_ret2
      rw [hf.out]
      exact ⟨rfl, hb1⟩
    · obtain ⟨m, rfl⟩ : ∃ m : Nat, n = (m : Int) := ⟨n.toNat, by omega⟩
      have hf := hid (show firstP s (m : Int) = (lowk s m 32, true) by unfold firstP; rw [if_neg (by omega), Int.toNat_natCast])
      have d2 : decide (cnt s < m) = false := by simp; omega
      have hmc : m ≤ cnt s := by omega
      go_enter Try.func53, Try.ntmps53
      go_wp2_with fail
      refine (listr_any s hs _).mono ?_
      rintro e w1 ⟨v, rfl, ho, hb1⟩
      obtain ⟨a1, c1, rfl, hc1⟩ := owns_form ho
      have hat := cat_take (owns_cat ho) m
      have hlm : ((L2 (lst s)).take m).length = m := by rw [List.length_take, hlen]; omega
      have e2 : (L2 (lst s)).take m = L2 ((lst s).take m) := by simp [L2, List.map_take]
      rw [e2] at hat hlm
      have kof := fun c => ofr_any a1 m c _ w1 hlm (by omega) hat
      rw [of_take] at kof
      rw [hlen] at ho hc1 ⊢
      replace ho := hid ho
      replace hat := hid hat
      clear e2 hlm
      have hmc1 : m ≤ c1 := by omega
      generalize cnt s = C at *
      go_wp2_with fail
      refine (kof _).mono ?_
      rintro e w2 ⟨rfl, rfl⟩
      go_wp2
      go_ret2
      rw [hf.out]
      exact ⟨rfl, hb1⟩

end Go.Proofs.Yticlpjpbjgfgmaa.Nd
