/- The remainder of bytes as a plain function on natural numbers, what is linear in it, that a change within 32 bits next to each other is told; numbers written as bytes, highest first. -/
import Derived.Handy
namespace Go.Proofs.Ytcbgnodmamcmkaa

/-- The register behind one bit. -/
def bit1 (r c : Nat) : Nat := if r % 2 = c % 2 then r / 2 else (r / 2) ^^^ 3988292384

/-- The register behind the k lowest bits of v. -/
def upTo (r v : Nat) : Nat → Nat
  | 0 => r
  | k + 1 => bit1 (upTo r v k) (v / 2 ^ k)

/-- The register behind bytes. -/
def reg (r : Nat) (l : List UInt8) : Nat := l.foldl (fun r x => upTo r x.toNat 8) r

/-- More and Crc. -/
def moreOf (s : Nat) (l : List UInt8) : Nat := 4294967295 - reg (4294967295 - s) l
def crcOf (l : List UInt8) : Nat := moreOf 0 l

theorem xor_lt32 {a b : Nat} (ha : a < 4294967296) (hb : b < 4294967296) : a ^^^ b < 4294967296 := Nat.xor_lt_two_pow (n := 32) ha hb

theorem bit1_lt (r c : Nat) (h : r < 4294967296) : bit1 r c < 4294967296 := by
  unfold bit1
  split
  · omega
  · exact xor_lt32 (by omega) (by omega)

theorem upTo_lt (r v k : Nat) (h : r < 4294967296) : upTo r v k < 4294967296 := by
  induction k with
  | zero => exact h
  | succ k ih => exact bit1_lt _ _ ih

theorem reg_nil (r : Nat) : reg r [] = r := rfl
theorem reg_cons (r : Nat) (x : UInt8) (l : List UInt8) : reg r (x :: l) = reg (upTo r x.toNat 8) l := by unfold reg; rw [List.foldl_cons]
theorem reg_append (r : Nat) (l m : List UInt8) : reg r (l ++ m) = reg (reg r l) m := by unfold reg; rw [List.foldl_append]
theorem reg_snoc (r : Nat) (l : List UInt8) (x : UInt8) : reg r (l ++ [x]) = upTo (reg r l) x.toNat 8 := by rw [reg_append, reg_cons, reg_nil]

theorem reg_lt (r : Nat) (l : List UInt8) (h : r < 4294967296) : reg r l < 4294967296 := by
  induction l generalizing r with
  | nil => exact h
  | cons x l ih => rw [reg_cons]; exact ih _ (upTo_lt _ _ _ h)

theorem moreOf_lt (s : Nat) (l : List UInt8) : moreOf s l < 4294967296 := by unfold moreOf; omega

/-- The sum of two lists, one behind the other. -/
theorem more_crc (l m : List UInt8) : moreOf (crcOf l) m = crcOf (l ++ m) := by
  unfold crcOf moreOf
  rw [reg_append]
  have h := reg_lt (4294967295 - 0) l (by omega)
  congr 2
  omega

/- What is linear. -/
theorem xor_mod (a b : Nat) : (a ^^^ b) % 2 = (a + b) % 2 := by
  have h := @Nat.xor_mod_two_eq_one a b
  by_cases k1 : a % 2 = 1 <;> by_cases k2 : b % 2 = 1 <;> simp only [k1, k2, iff_true, iff_false, not_true_eq_false, not_false_eq_true] at h <;> omega

theorem bit1_xor (a b c d : Nat) : bit1 (a ^^^ b) (c ^^^ d) = bit1 a c ^^^ bit1 b d := by
  unfold bit1
  have e : (a ^^^ b) / 2 = a / 2 ^^^ b / 2 := Nat.xor_div_two
  have h1 : (a ^^^ b) % 2 = (a + b) % 2 := xor_mod a b
  have h2 : (c ^^^ d) % 2 = (c + d) % 2 := xor_mod c d
  rw [e]
  by_cases k1 : a % 2 = c % 2 <;> by_cases k2 : b % 2 = d % 2
  · rw [if_pos k1, if_pos k2, if_pos (by omega)]
  · rw [if_pos k1, if_neg k2, if_neg (by omega), Nat.xor_assoc]
  · rw [if_neg k1, if_pos k2, if_neg (by omega), Nat.xor_assoc, Nat.xor_assoc, Nat.xor_comm (b / 2)]
  · rw [if_neg k1, if_neg k2, if_pos (by omega), Nat.xor_assoc, Nat.xor_comm (b / 2), ← Nat.xor_assoc 3988292384, Nat.xor_self, Nat.zero_xor]

theorem div_xor (a b k : Nat) : (a ^^^ b) / 2 ^ k = a / 2 ^ k ^^^ b / 2 ^ k := by
  rw [← Nat.shiftRight_eq_div_pow, ← Nat.shiftRight_eq_div_pow, ← Nat.shiftRight_eq_div_pow, Nat.shiftRight_xor_distrib]

theorem upTo_xor (a b c d k : Nat) : upTo (a ^^^ b) (c ^^^ d) k = upTo a c k ^^^ upTo b d k := by
  induction k with
  | zero => rfl
  | succ k ih => simp only [upTo]; rw [ih, div_xor, bit1_xor]

theorem reg_three (a b c : Nat) (l m n : List UInt8) (h1 : l.length = m.length) (h2 : l.length = n.length) :
    reg (a ^^^ b ^^^ c) (List.zipWith (fun x y => x ^^^ y) (List.zipWith (fun x y => x ^^^ y) l m) n) = reg a l ^^^ reg b m ^^^ reg c n := by
  induction l generalizing a b c m n with
  | nil =>
    cases m with
    | cons _ _ => simp at h1
    | nil => cases n with
      | cons _ _ => simp at h2
      | nil => rfl
  | cons x l ih =>
    cases m with
    | nil => simp at h1
    | cons y m => cases n with
      | nil => simp at h2
      | cons z n =>
        simp only [List.zipWith_cons_cons, reg_cons, UInt8.toNat_xor]
        rw [upTo_xor, upTo_xor]
        exact ih _ _ _ m n (by simpa using h1) (by simpa using h2)

theorem turned (r : Nat) (h : r < 4294967296) : 4294967295 - r = r ^^^ 4294967295 := by
  have h1 : (BitVec.ofNat 32 r ^^^ BitVec.allOnes 32).toNat = (~~~ (BitVec.ofNat 32 r)).toNat := by rw [BitVec.xor_allOnes]
  rw [BitVec.toNat_xor, BitVec.toNat_not, BitVec.toNat_allOnes, BitVec.toNat_ofNat] at h1
  have e : r % 2 ^ 32 = r := Nat.mod_eq_of_lt h
  rw [e] at h1
  exact h1.symm

theorem crc_three (l m n : List UInt8) (h1 : l.length = m.length) (h2 : l.length = n.length) :
    crcOf (List.zipWith (fun x y => x ^^^ y) (List.zipWith (fun x y => x ^^^ y) l m) n) = crcOf l ^^^ crcOf m ^^^ crcOf n := by
  have h := reg_three 4294967295 4294967295 4294967295 l m n h1 h2
  have e : 4294967295 ^^^ 4294967295 ^^^ 4294967295 = 4294967295 := by decide
  rw [e] at h
  unfold crcOf moreOf
  rw [Nat.sub_zero, h]
  have b1 := reg_lt 4294967295 l (by omega)
  have b2 := reg_lt 4294967295 m (by omega)
  have b3 := reg_lt 4294967295 n (by omega)
  rw [turned _ (xor_lt32 (xor_lt32 b1 b2) b3), turned _ b1, turned _ b2, turned _ b3]
  generalize reg 4294967295 l = x
  generalize reg 4294967295 m = y
  generalize reg 4294967295 n = z
  apply Nat.eq_of_testBit_eq
  intro i
  simp only [Nat.testBit_xor]
  cases Nat.testBit x i <;> cases Nat.testBit y i <;> cases Nat.testBit z i <;> cases Nat.testBit 4294967295 i <;> rfl

/- A short change is told. -/
theorem top_bit (a j : Nat) (ha : a < 2147483648) (hj : j ≤ 31) : (a ^^^ 3988292384) / 2 ^ j = a / 2 ^ j ^^^ 3988292384 / 2 ^ j ∧ Nat.testBit (a / 2 ^ j) (31 - j) = false ∧ Nat.testBit (3988292384 / 2 ^ j) (31 - j) = true := by
  refine ⟨div_xor _ _ _, ?_, ?_⟩
  · rw [Nat.testBit_div_two_pow]
    have e : 31 - j + j = 31 := by omega
    rw [e]
    exact Nat.testBit_lt_two_pow (by omega)
  · rw [Nat.testBit_div_two_pow]
    have e : 31 - j + j = 31 := by omega
    rw [e]
    decide

/-- What of the register behind a bit is seen tells what the register was ahead, but for one bit more, and whether the bits were unlike. -/
theorem bit1_back (r r' c c' j : Nat) (hr : r < 4294967296) (hr' : r' < 4294967296) (hj : j ≤ 31) (h : bit1 r c / 2 ^ j = bit1 r' c' / 2 ^ j) :
    r / 2 ^ (j + 1) = r' / 2 ^ (j + 1) ∧ (r % 2 = c % 2 ↔ r' % 2 = c' % 2) := by
  have t := top_bit (r / 2) j (by omega) hj
  have t' := top_bit (r' / 2) j (by omega) hj
  have e : ∀ x : Nat, x / 2 ^ (j + 1) = x / 2 / 2 ^ j := by
    intro x; rw [Nat.pow_succ, Nat.mul_comm, ← Nat.div_div_eq_div_mul]
  rw [e, e]
  unfold bit1 at h
  by_cases k1 : r % 2 = c % 2 <;> by_cases k2 : r' % 2 = c' % 2
  · rw [if_pos k1, if_pos k2] at h
    exact ⟨h, by simp [k1, k2]⟩
  · rw [if_pos k1, if_neg k2, t'.1] at h
    have := congrArg (fun n => Nat.testBit n (31 - j)) h
    simp only [Nat.testBit_xor, t.2.1, t'.2.1, t'.2.2] at this
    exact absurd this (by decide)
  · rw [if_neg k1, if_pos k2, t.1] at h
    have := congrArg (fun n => Nat.testBit n (31 - j)) h
    simp only [Nat.testBit_xor, t.2.1, t'.2.1, t.2.2] at this
    exact absurd this (by decide)
  · rw [if_neg k1, if_neg k2, t.1, t'.1] at h
    refine ⟨?_, by simp [k1, k2]⟩
    have := congrArg (fun n => n ^^^ 3988292384 / 2 ^ j) h
    simpa [Nat.xor_assoc] using this

/-- The register behind bits. -/
def run (r : Nat) (cs : List Nat) : Nat := cs.foldl bit1 r

theorem run_lt (r : Nat) (cs : List Nat) (h : r < 4294967296) : run r cs < 4294967296 := by
  induction cs generalizing r with
  | nil => exact h
  | cons c cs ih => exact ih _ (bit1_lt _ _ h)

theorem run_back (cs cs' : List Nat) (r r' j : Nat) (hr : r < 4294967296) (hr' : r' < 4294967296) (hlen : cs.length = cs'.length) (hj : j + cs.length ≤ 32) (h : run r cs / 2 ^ j = run r' cs' / 2 ^ j) :
    r / 2 ^ (j + cs.length) = r' / 2 ^ (j + cs.length) ∧ (r = r' → cs.map (· % 2) = cs'.map (· % 2)) := by
  induction cs generalizing r r' cs' with
  | nil =>
    cases cs' with
    | nil => exact ⟨h, fun _ => rfl⟩
    | cons _ _ => simp at hlen
  | cons c t ih =>
    cases cs' with
    | nil => simp at hlen
    | cons c' t' =>
      simp only [List.length_cons] at hlen hj
      obtain ⟨h1, h2⟩ := ih t' (bit1 r c) (bit1 r' c') (bit1_lt _ _ hr) (bit1_lt _ _ hr') (by omega) (by omega) h
      obtain ⟨h3, h4⟩ := bit1_back r r' c c' (j + t.length) hr hr' (by omega) h1
      refine ⟨h3, fun e => ?_⟩
      subst e
      have hc : c % 2 = c' % 2 := by
        by_cases k : r % 2 = c % 2
        · rw [← k, h4.1 k]
        · have k' : ¬ r % 2 = c' % 2 := fun x => k (h4.2 x)
          omega
      have e : bit1 r c = bit1 r c' := by unfold bit1; rw [hc]
      simp [hc, h2 e]

/-- The bits of a byte, the lowest first. -/
def bitsOf (v : Nat) : List Nat := [v / 1, v / 2, v / 4, v / 8, v / 16, v / 32, v / 64, v / 128]

theorem upTo_run (r v : Nat) : upTo r v 8 = run r (bitsOf v) := by
  simp only [upTo, run, bitsOf, List.foldl]

theorem bitsOf_inj (v v' : Nat) (h : v < 256) (h' : v' < 256) (e : (bitsOf v).map (· % 2) = (bitsOf v').map (· % 2)) : v = v' := by
  simp only [bitsOf, List.map_cons, List.map_nil, List.cons.injEq] at e
  obtain ⟨e0, e1, e2, e3, e4, e5, e6, e7, _⟩ := e
  omega

theorem reg_run (r : Nat) (l : List UInt8) : reg r l = run r (l.flatMap fun x => bitsOf x.toNat) := by
  induction l generalizing r with
  | nil => rfl
  | cons x l ih =>
    rw [reg_cons, ih, List.flatMap_cons, upTo_run]
    unfold run
    rw [List.foldl_append]

theorem bits_len (l : List UInt8) : (l.flatMap fun x => bitsOf x.toNat).length = 8 * l.length := by
  induction l with
  | nil => rfl
  | cons x l ih => rw [List.flatMap_cons, List.length_append, ih]; simp [bitsOf]; omega

theorem bits_inj (l m : List UInt8) (h : l.length = m.length) (e : (l.flatMap fun x => bitsOf x.toNat).map (· % 2) = (m.flatMap fun x => bitsOf x.toNat).map (· % 2)) : l = m := by
  induction l generalizing m with
  | nil =>
    cases m with
    | nil => rfl
    | cons _ _ => simp at h
  | cons x l ih =>
    cases m with
    | nil => simp at h
    | cons y m =>
      rw [List.flatMap_cons, List.flatMap_cons, List.map_append, List.map_append] at e
      have e' := List.append_inj e (by simp [bitsOf])
      have h1 := bitsOf_inj _ _ x.toNat_lt y.toNat_lt e'.1
      rw [ih m (by simpa using h) e'.2, UInt8.toNat_inj.1 h1]

/-- From one register up to four bytes lead to another register wherever they are other bytes. -/
theorem burst (r : Nat) (l m : List UInt8) (hr : r < 4294967296) (h : l.length = m.length) (h4 : l.length ≤ 4) (e : reg r l = reg r m) : l = m := by
  rw [reg_run, reg_run] at e
  refine bits_inj l m h ((run_back _ _ r r 0 hr hr (by rw [bits_len, bits_len, h]) (by rw [bits_len]; omega) ?_).2 rfl)
  rw [e]

/-- Other registers stay apart over the same bytes. -/
theorem run_inj (cs : List Nat) (r r' : Nat) (hr : r < 4294967296) (hr' : r' < 4294967296) (e : run r cs = run r' cs) : r = r' := by
  induction cs generalizing r r' with
  | nil => exact e
  | cons c t ih =>
    have h := ih _ _ (bit1_lt _ c hr) (bit1_lt _ c hr') e
    have h1 := bit1_back r r' c c 0 hr hr' (by omega) (by rw [h])
    have h2 := h1.1
    have h3 := h1.2
    simp only [Nat.zero_add, Nat.pow_one] at h2
    by_cases k : r % 2 = c % 2
    · have := h3.1 k; omega
    · have k' : ¬ r' % 2 = c % 2 := fun x => k (h3.2 x)
      omega

theorem reg_inj (r r' : Nat) (l : List UInt8) (hr : r < 4294967296) (hr' : r' < 4294967296) (e : reg r l = reg r' l) : r = r' := by
  rw [reg_run, reg_run] at e
  exact run_inj _ _ _ hr hr' e

/-- Lists that differ within four bytes next to each other have other sums. -/
theorem crc_burst (a l m z : List UInt8) (h : l.length = m.length) (h4 : l.length ≤ 4) (e : crcOf (a ++ l ++ z) = crcOf (a ++ m ++ z)) : l = m := by
  unfold crcOf moreOf at e
  simp only [reg_append, Nat.sub_zero] at e
  have b := reg_lt 4294967295 a (by omega)
  have b1 := reg_lt _ z (reg_lt _ l b)
  have b2 := reg_lt _ z (reg_lt _ m b)
  have e2 : reg (reg (reg 4294967295 a) l) z = reg (reg (reg 4294967295 a) m) z := by omega
  exact burst _ l m b h h4 (reg_inj _ _ z (reg_lt _ l b) (reg_lt _ m b) e2)

/-- The number that bytes say, highest first. -/
def numOf (l : List UInt8) : Nat := l.foldl (fun a x => a * 256 + x.toNat) 0

theorem foldl_num : ∀ (l : List UInt8) (a : Nat), l.foldl (fun a x => a * 256 + x.toNat) a = a * 256 ^ l.length + numOf l
  | [], a => by simp [numOf]
  | x :: l, a => by
    rw [List.foldl_cons, foldl_num l, show numOf (x :: l) = x.toNat * 256 ^ l.length + numOf l from by
      show List.foldl _ _ (x :: l) = _
      rw [List.foldl_cons, foldl_num l]; simp]
    simp only [List.length_cons, Nat.pow_succ, Nat.add_mul]
    rw [Nat.mul_assoc a 256, Nat.mul_comm 256 (256 ^ l.length)]
    omega

theorem numOf_append (l m : List UInt8) : numOf (l ++ m) = numOf l * 256 ^ m.length + numOf m := by
  rw [numOf, List.foldl_append, foldl_num]; rfl

theorem numOf_one (x : UInt8) : numOf [x] = x.toNat := by simp [numOf]
theorem numOf_nil : numOf [] = 0 := rfl

theorem numOf_snoc (l : List UInt8) (x : UInt8) : numOf (l ++ [x]) = numOf l * 256 + x.toNat := by
  rw [numOf_append, numOf_one]; simp

theorem numOf_cons (x : UInt8) (l : List UInt8) : numOf (x :: l) = x.toNat * 256 ^ l.length + numOf l := by
  have := numOf_append [x] l
  rw [numOf_one] at this; exact this

theorem numOf_lt : ∀ l : List UInt8, numOf l < 256 ^ l.length
  | [] => by simp [numOf]
  | x :: l => by
    rw [numOf_cons, List.length_cons, Nat.pow_succ]
    have h1 := numOf_lt l
    have h2 := x.toNat_lt
    have h3 : x.toNat ≤ 255 := by omega
    have h4 := Nat.mul_le_mul_right (256 ^ l.length) h3
    omega

/-- n bytes of v, highest first. -/
def be : Nat → Nat → List UInt8
  | 0, _ => []
  | n + 1, v => be n (v / 256) ++ [UInt8.ofNat v]

theorem be_length : ∀ (n v : Nat), (be n v).length = n
  | 0, _ => rfl
  | n + 1, v => by simp [be, be_length n]

theorem numOf_be : ∀ (n v : Nat), numOf (be n v) = v % 256 ^ n
  | 0, v => by simp [be, numOf, Nat.mod_one]
  | n + 1, v => by
    rw [be, numOf_snoc, numOf_be n, Nat.pow_succ, Nat.mul_comm (256 ^ n) 256, Nat.mod_mul]
    simp
    omega

theorem be_mod : ∀ (n v : Nat), be n (v % 256 ^ n) = be n v
  | 0, _ => rfl
  | n + 1, v => by
    have e1 : v % 256 ^ (n + 1) / 256 = v / 256 % 256 ^ n := by
      rw [Nat.pow_succ, Nat.mul_comm (256 ^ n) 256, Nat.mod_mul_right_div_self]
    have e2 : UInt8.ofNat (v % 256 ^ (n + 1)) = UInt8.ofNat v := by
      apply UInt8.toNat_inj.1
      simp only [UInt8.toNat_ofNat']
      rw [Nat.pow_succ, Nat.mul_comm (256 ^ n) 256]
      exact Nat.mod_mul_right_mod v 256 (256 ^ n)
    rw [be, be, e1, be_mod n, e2]

theorem be_numOf : ∀ l : List UInt8, be l.length (numOf l) = l := by
  intro l
  induction hn : l.length generalizing l with
  | zero => simp [List.eq_nil_of_length_eq_zero hn, be]
  | succ n ih =>
    obtain ⟨m, x, rfl⟩ : ∃ m x, l = m ++ [x] := ⟨l.dropLast, l.getLast (by intro h; simp [h] at hn), (List.dropLast_concat_getLast _).symm⟩
    simp at hn
    rw [numOf_snoc, be]
    have h2 := x.toNat_lt
    have e1 : (numOf m * 256 + x.toNat) / 256 = numOf m := by omega
    have e2 : UInt8.ofNat (numOf m * 256 + x.toNat) = x := by
      apply UInt8.toNat_inj.1
      simp
    rw [e1, ih m hn, e2]

theorem numOf_inj {l m : List UInt8} (hl : l.length = m.length) (h : numOf l = numOf m) : l = m := by
  rw [← be_numOf l, ← be_numOf m, hl, h]

/-- The byte at place i. -/
theorem be_get : ∀ (n v i : Nat) (h : i < n), (be n v)[i]'(by rw [be_length]; exact h) = UInt8.ofNat (v / 256 ^ (n - 1 - i))
  | n + 1, v, i, h => by
    simp only [be]
    by_cases hi : i < n
    · rw [List.getElem_append_left (by rw [be_length]; exact hi), be_get n (v / 256) i hi, Nat.div_div_eq_div_mul, ← Nat.pow_succ']
      congr 3; omega
    · have : i = n := by omega
      subst this
      rw [List.getElem_append_right (by rw [be_length]; omega)]
      simp [be_length]

/-- Lexicographic order of as many bytes is the order of the numbers. -/
theorem numOf_lex : ∀ (l m : List UInt8), l.length = m.length → (l < m ↔ numOf l < numOf m)
  | [], [], _ => by simp
  | x :: l, y :: m, h => by
    have hl : l.length = m.length := by simpa using h
    rw [List.cons_lt_cons_iff, numOf_cons, numOf_cons, numOf_lex l m hl, hl]
    have a := numOf_lt l
    have b := numOf_lt m
    rw [hl] at a
    generalize 256 ^ m.length = p at *
    by_cases e : x = y
    · subst e
      simp
    · have hne : x.toNat ≠ y.toNat := fun h => e (UInt8.toNat_inj.1 h)
      rw [UInt8.lt_iff_toNat_lt]
      simp only [e, false_and, or_false]
      constructor
      · intro hlt
        have : (x.toNat + 1) * p ≤ y.toNat * p := Nat.mul_le_mul_right p hlt
        rw [Nat.add_mul] at this; omega
      · intro hlt
        rcases Nat.lt_or_gt_of_ne hne with h1 | h1
        · exact h1
        · have : (y.toNat + 1) * p ≤ x.toNat * p := Nat.mul_le_mul_right p h1
          rw [Nat.add_mul] at this; omega
  | [], _ :: _, h => by simp at h
  | _ :: _, [], h => by simp at h

end Go.Proofs.Ytcbgnodmamcmkaa
