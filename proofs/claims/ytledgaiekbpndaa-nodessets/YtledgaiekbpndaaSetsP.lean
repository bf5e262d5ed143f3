/- Sets of nodes that have cores enough, that are up: plain. -/
import Derived.Test.YtledgaiekbpndaaAwake
namespace Go.Proofs.Ytledgaiekbpndaa
open Go.RowKit

theorem not_bit {b : Nat} (hb : b < 4294967296) (i : Nat) : (4294967295 - b).testBit i = (decide (i < 32) && !b.testBit i) := by
  have := Nat.testBit_two_pow_sub_succ (x := b) (n := 32) (by simpa using hb) i
  rw [show (2 : Nat) ^ 32 - (b + 1) = 4294967295 - b by omega] at this
  exact this

theorem ableP_lt {L : List Nod} {s : Nat} {c : Int} (hs : s < 4294967296) : ableP L s c < 4294967296 := Nat.lt_of_le_of_lt Nat.and_le_left hs

theorem ableP_bit (L : List Nod) (s : Nat) (c : Int) (i : Nat) : (ableP L s c).testBit i = (s.testBit i && (decide (i < min L.length 32) && coB L c i)) := by
  unfold ableP
  rw [Nat.testBit_and, gs_bit]

theorem able_in (L : List Nod) {s : Nat} (c : Int) (hs : s < 4294967296) : ableP L s c &&& (4294967295 - s) = 0 := by
  apply Nat.eq_of_testBit_eq
  intro i
  rw [Nat.testBit_and, ableP_bit, not_bit hs, Nat.zero_testBit]
  cases s.testBit i <;> simp

theorem able_more (L : List Nod) {s : Nat} {c d : Int} (hs : s < 4294967296) (h : d ≤ c) : ableP L s c &&& (4294967295 - ableP L s d) = 0 := by
  apply Nat.eq_of_testBit_eq
  intro i
  rw [Nat.testBit_and, not_bit (ableP_lt hs), ableP_bit, ableP_bit, Nat.zero_testBit]
  have hc : coB L c i = true → coB L d i = true := by
    unfold coB
    simp
    omega
  cases h1 : coB L c i
  · simp
  · rw [hc h1]
    cases s.testBit i
    · simp
    · simp
      intro h2 _
      exact h2

theorem able_all {L : List Nod} {s : Nat} (h : rightB L = true) : ableP L s 1 = s &&& (2 ^ L.length - 1) := by
  apply Nat.eq_of_testBit_eq
  intro i
  have hl := (right_is h).1
  rw [ableP_bit, Nat.testBit_and, Nat.testBit_two_pow_sub_one, Nat.min_eq_left hl.2]
  by_cases hi : i < L.length
  · have := (right_is h).2 _ (List.getElem_mem hi)
    rw [nodAt_eq hi] at this
    have h1 := (of_decide_eq_true this).1
    have : coB L 1 i = true := decide_eq_true h1
    rw [this]; simp
  · simp [hi]

theorem nodAt_fail_co (L : List Nod) (k i : Nat) : (nodAt (failN L k) i).1 = (nodAt L i).1 := by
  unfold failN
  by_cases e : k = i
  · subst e
    by_cases hk : k < L.length
    · rw [nodAt_set hk]
    · simp [nodAt, hk]
  · simp [nodAt, e]

theorem failN_len (L : List Nod) (k : Nat) : (failN L k).length = L.length := by unfold failN; rw [List.length_set]

theorem able_fail (L : List Nod) (k s : Nat) (c : Int) : ableP (failN L k) s c = ableP L s c := by
  unfold ableP
  rw [failN_len]
  congr 2
  funext i
  unfold coB
  rw [nodAt_fail_co]

theorem cores_fail (L : List Nod) (k : Nat) : (failN L k).map (·.1) = L.map (·.1) := by
  apply List.ext_getElem
  · simp [failN_len]
  · intro i h1 h2
    have h3 : i < (failN L k).length := by simpa using h1
    have h4 : i < L.length := by simpa using h2
    simp only [List.getElem_map]
    rw [nodAt_eq h3, nodAt_eq h4]
    exact nodAt_fail_co L k i

theorem up_fail {L : List Nod} {k : Nat} (hk : k < L.length) (hl : L.length ≤ 32) : upP (failN L k) = upP L &&& (4294967295 - 2 ^ k) := by
  apply Nat.eq_of_testBit_eq
  intro i
  unfold upP
  rw [failN_len, Nat.testBit_and, gs_bit, gs_bit, not_bit (pow_lt32 (by omega)), Nat.testBit_two_pow]
  by_cases e : k = i
  · subst e
    have : upB (failN L k) k = false := by unfold upB failN; rw [nodAt_set hk]
    simp [this]
  · have : upB (failN L k) i = upB L i := by unfold upB failN; simp [nodAt, e]
    rw [this]
    by_cases hi : i < min L.length 32
    · have : i < 32 := by omega
      simp [hi, e, this]
    · simp [hi]

end Go.Proofs.Ytledgaiekbpndaa
