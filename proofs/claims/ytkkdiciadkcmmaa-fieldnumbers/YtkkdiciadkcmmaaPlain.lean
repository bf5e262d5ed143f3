/- Plain facts on numbers written as bytes, highest first: length, value, reading back, order. No condition. -/
import Derived.Handy
namespace Go.Proofs.Ytkkdiciadkcmmaa

/-- The number that bytes say, highest first. -/
def numOf (l : List UInt8) : Nat := l.foldl (fun a x => a * 256 + x.toNat) 0

theorem foldl_num : ∀ (l : List UInt8) (a : Nat), l.foldl (fun a x => a * 256 + x.toNat) a = a * 256 ^ l.length + numOf l
  | [], a => by simp [numOf]
  | x :: l, a => by
    rw [List.foldl_cons, foldl_num l, show numOf (x :: l) = x.toNat * 256 ^ l.length + numOf l from by
      show List.foldl _ _ (x :: l) = _
      rw [List.foldl_cons, foldl_num l]; simp]
    simp only [List.length_cons, Nat.pow_succ, Nat.add_mul]
    rw [Nat.mul_assoc a 256, Nat.mul_comm 256 (256 ^ l.length)]
    omega

theorem numOf_append (l m : List UInt8) : numOf (l ++ m) = numOf l * 256 ^ m.length + numOf m := by
  rw [numOf, List.foldl_append, foldl_num]; rfl

theorem numOf_one (x : UInt8) : numOf [x] = x.toNat := by simp [numOf]
theorem numOf_nil : numOf [] = 0 := rfl

theorem numOf_snoc (l : List UInt8) (x : UInt8) : numOf (l ++ [x]) = numOf l * 256 + x.toNat := by
  rw [numOf_append, numOf_one]; simp

theorem numOf_cons (x : UInt8) (l : List UInt8) : numOf (x :: l) = x.toNat * 256 ^ l.length + numOf l := by
  have := numOf_append [x] l
  rw [numOf_one] at this; exact this

theorem numOf_lt : ∀ l : List UInt8, numOf l < 256 ^ l.length
  | [] => by simp [numOf]
  | x :: l => by
    rw [numOf_cons, List.length_cons, Nat.pow_succ]
    have h1 := numOf_lt l
    have h2 := x.toNat_lt
    have h3 : x.toNat ≤ 255 := by omega
    have h4 := Nat.mul_le_mul_right (256 ^ l.length) h3
    omega

/-- n bytes of v, highest first. -/
def be : Nat → Nat → List UInt8
  | 0, _ => []
  | n + 1, v => be n (v / 256) ++ [UInt8.ofNat v]

theorem be_length : ∀ (n v : Nat), (be n v).length = n
  | 0, _ => rfl
  | n + 1, v => by simp [be, be_length n]

theorem numOf_be : ∀ (n v : Nat), numOf (be n v) = v % 256 ^ n
  | 0, v => by simp [be, numOf, Nat.mod_one]
  | n + 1, v => by
    rw [be, numOf_snoc, numOf_be n, Nat.pow_succ, Nat.mul_comm (256 ^ n) 256, Nat.mod_mul]
    simp
    omega

theorem be_mod : ∀ (n v : Nat), be n (v % 256 ^ n) = be n v
  | 0, _ => rfl
  | n + 1, v => by
    have e1 : v % 256 ^ (n + 1) / 256 = v / 256 % 256 ^ n := by
      rw [Nat.pow_succ, Nat.mul_comm (256 ^ n) 256, Nat.mod_mul_right_div_self]
    have e2 : UInt8.ofNat (v % 256 ^ (n + 1)) = UInt8.ofNat v := by
      apply UInt8.toNat_inj.1
      simp only [UInt8.toNat_ofNat']
      rw [Nat.pow_succ, Nat.mul_comm (256 ^ n) 256]
      exact Nat.mod_mul_right_mod v 256 (256 ^ n)
    rw [be, be, e1, be_mod n, e2]

theorem be_numOf : ∀ l : List UInt8, be l.length (numOf l) = l := by
  intro l
  induction hn : l.length generalizing l with
  | zero => simp [List.eq_nil_of_length_eq_zero hn, be]
  | succ n ih =>
    obtain ⟨m, x, rfl⟩ : ∃ m x, l = m ++ [x] := ⟨l.dropLast, l.getLast (by intro h; simp [h] at hn), (List.dropLast_concat_getLast _).symm⟩
    simp at hn
    rw [numOf_snoc, be]
    have h2 := x.toNat_lt
    have e1 : (numOf m * 256 + x.toNat) / 256 = numOf m := by omega
    have e2 : UInt8.ofNat (numOf m * 256 + x.toNat) = x := by
      apply UInt8.toNat_inj.1
      simp
    rw [e1, ih m hn, e2]

theorem numOf_inj {l m : List UInt8} (hl : l.length = m.length) (h : numOf l = numOf m) : l = m := by
  rw [← be_numOf l, ← be_numOf m, hl, h]

/-- The byte at place i. -/
theorem be_get : ∀ (n v i : Nat) (h : i < n), (be n v)[i]'(by rw [be_length]; exact h) = UInt8.ofNat (v / 256 ^ (n - 1 - i))
  | n + 1, v, i, h => by
    simp only [be]
    by_cases hi : i < n
    · rw [List.getElem_append_left (by rw [be_length]; exact hi), be_get n (v / 256) i hi, Nat.div_div_eq_div_mul, ← Nat.pow_succ']
      congr 3; omega
    · have : i = n := by omega
      subst this
      rw [List.getElem_append_right (by rw [be_length]; omega)]
      simp [be_length]

/-- Lexicographic order of as many bytes is the order of the numbers. -/
theorem numOf_lex : ∀ (l m : List UInt8), l.length = m.length → (l < m ↔ numOf l < numOf m)
  | [], [], _ => by simp
  | x :: l, y :: m, h => by
    have hl : l.length = m.length := by simpa using h
    rw [List.cons_lt_cons_iff, numOf_cons, numOf_cons, numOf_lex l m hl, hl]
    have a := numOf_lt l
    have b := numOf_lt m
    rw [hl] at a
    generalize 256 ^ m.length = p at *
    by_cases e : x = y
    · subst e
      simp
    · have hne : x.toNat ≠ y.toNat := fun h => e (UInt8.toNat_inj.1 h)
      rw [UInt8.lt_iff_toNat_lt]
      simp only [e, false_and, or_false]
      constructor
      · intro hlt
        have : (x.toNat + 1) * p ≤ y.toNat * p := Nat.mul_le_mul_right p hlt
        rw [Nat.add_mul] at this; omega
      · intro hlt
        rcases Nat.lt_or_gt_of_ne hne with h1 | h1
        · exact h1
        · have : (y.toNat + 1) * p ≤ x.toNat * p := Nat.mul_le_mul_right p h1
          rw [Nat.add_mul] at this; omega
  | [], _ :: _, h => by simp at h
  | _ :: _, [], h => by simp at h

end Go.Proofs.Ytkkdiciadkcmmaa
