/- Sets of nodes as numbers below 2 to the 32: bits, lists of nodes, how many; plain. -/
import Derived.Test.YtflapjehkgefdaaGreatRows
import Derived.Laws.BitsAllLaws
namespace Go.Proofs.YtflapjehkgefdaaGreat.Nd

/-- The nodes of s below k, rising. -/
def lstk (s k : Nat) : List Nat := (List.range k).filter s.testBit

def lst (s : Nat) : List Nat := lstk s 32

/-- How many nodes s has. -/
def cnt (s : Nat) : Nat := (lst s).length

/-- The set of these nodes. -/
def ofN (l : List Nat) : Nat := l.foldl (fun s n => s ||| 2 ^ n) 0

theorem and_pow (s n : Nat) : (s &&& 2 ^ n = 0) ↔ s.testBit n = false := by
  constructor
  · intro h
    have := congrArg (fun x => x.testBit n) h
    simpa using this
  · intro h
    apply Nat.eq_of_testBit_eq
    intro i
    simp only [Nat.testBit_and, Nat.testBit_two_pow, Nat.zero_testBit]
    by_cases e : n = i
    · subst e; simp [h]
    · simp [e]

theorem has_eq (s n : Nat) : (!decide (((s &&& 2 ^ n : Nat) : Int) = 0)) = s.testBit n := by
  cases h : s.testBit n
  · simp; exact_mod_cast (and_pow s n).2 h
  · simp
    intro h2
    have h3 := (and_pow s n).1 (by exact_mod_cast h2)
    rw [h] at h3; cases h3

theorem ofN_from (l : List Nat) (s i : Nat) : (l.foldl (fun s n => s ||| 2 ^ n) s).testBit i = (s.testBit i || decide (i ∈ l)) := by
  induction l generalizing s with
  | nil => simp
  | cons a t ih =>
    rw [List.foldl_cons, ih, Nat.testBit_or, Nat.testBit_two_pow]
    by_cases e : a = i
    · subst e; simp
    · have e' : ¬ i = a := fun h => e h.symm
      simp [e, e']

theorem ofN_bit (l : List Nat) (i : Nat) : (ofN l).testBit i = decide (i ∈ l) := by
  unfold ofN; rw [ofN_from]; simp

theorem or_lt {s n : Nat} (hs : s < 4294967296) (hn : n < 32) : s ||| 2 ^ n < 4294967296 := by
  have h1 : (2 : Nat) ^ n < 2 ^ 32 := Nat.pow_lt_pow_right (by omega) hn
  exact Nat.or_lt_two_pow (n := 32) (by simpa using hs) h1

theorem bit_lt {s i : Nat} (hs : s < 4294967296) (h : s.testBit i = true) : i < 32 := by
  rcases Nat.lt_or_ge i 32 with h1 | h1
  · exact h1
  · have : s < 2 ^ i := Nat.lt_of_lt_of_le (show s < 2 ^ 32 by simpa using hs) (Nat.pow_le_pow_right (by omega) h1)
    rw [Nat.testBit_lt_two_pow this] at h; cases h

theorem ext32 {a b : Nat} (ha : a < 4294967296) (hb : b < 4294967296) (h : ∀ i, i < 32 → a.testBit i = b.testBit i) : a = b := by
  apply Nat.eq_of_testBit_eq
  intro i
  by_cases hi : i < 32
  · exact h i hi
  · cases h1 : a.testBit i
    · cases h2 : b.testBit i
      · rfl
      · exact absurd (bit_lt hb h2) hi
    · exact absurd (bit_lt ha h1) hi

theorem ofN_lt {l : List Nat} (h : ∀ n ∈ l, n < 32) : ofN l < 4294967296 := by
  suffices ∀ (l : List Nat) (s : Nat), s < 4294967296 → (∀ n ∈ l, n < 32) → l.foldl (fun s n => s ||| 2 ^ n) s < 4294967296 from this l 0 (by omega) h
  intro l
  induction l with
  | nil => intro s hs _; exact hs
  | cons a t ih => intro s hs h; exact ih _ (or_lt hs (h a (by simp))) (fun n hn => h n (by simp [hn]))

theorem mem_lstk {s k i : Nat} : i ∈ lstk s k ↔ i < k ∧ s.testBit i = true := by simp [lstk]

theorem mem_lst {s i : Nat} : i ∈ lst s ↔ i < 32 ∧ s.testBit i = true := mem_lstk

theorem ofN_lst {s : Nat} (hs : s < 4294967296) : ofN (lst s) = s := by
  refine ext32 (ofN_lt fun n hn => (mem_lst.1 hn).1) hs fun i hi => ?_
  rw [ofN_bit]
  cases h : s.testBit i <;> simp [mem_lst, hi, h]

theorem filter_sub {α : Type} [DecidableEq α] {l m : List α} (h : l.Sublist m) (hm : m.Nodup) : m.filter (fun x => decide (x ∈ l)) = l := by
  induction h with
  | slnil => rfl
  | @cons l' m' a h ih =>
    have hn := List.nodup_cons.1 hm
    rw [List.filter_cons_of_neg (by simp; exact fun h2 => hn.1 (h.subset h2))]
    exact ih hn.2
  | @cons_cons l' m' a h ih =>
    have hn := List.nodup_cons.1 hm
    rw [List.filter_cons_of_pos (by simp)]
    congr 1
    have e := ih hn.2
    conv => rhs; rw [← e]
    apply List.filter_congr
    intro x hx
    have : x ≠ a := fun h2 => hn.1 (h2 ▸ hx)
    simp [this]

/-- A set that is made of rising nodes has just these. -/
theorem lst_ofN {l : List Nat} (h : l.Sublist (List.range 32)) : lst (ofN l) = l := by
  have e := filter_sub h List.nodup_range
  conv => rhs; rw [← e]
  unfold lst lstk
  apply List.filter_congr
  intro x _
  exact ofN_bit l x

theorem lstk_sub (s k : Nat) : (lstk s k).Sublist (List.range k) := List.filter_sublist

theorem lstk_succ (s k : Nat) : lstk s (k + 1) = if s.testBit k then lstk s k ++ [k] else lstk s k := by
  unfold lstk
  rw [List.range_succ, List.filter_append]
  cases h : s.testBit k <;> simp [h]

theorem range_sub {k m : Nat} (h : k ≤ m) : (List.range k).Sublist (List.range m) := by
  have : List.range k = (List.range m).take k := by rw [List.take_range]; congr 1; omega
  rw [this]
  exact List.take_sublist _ _

theorem lstk_len (s k : Nat) : (lstk s k).length ≤ k := by
  have := (lstk_sub s k).length_le
  simpa using this

theorem cnt_le (s : Nat) : cnt s ≤ 32 := lstk_len s 32

theorem ofN_append (l : List Nat) (n : Nat) : ofN (l ++ [n]) = ofN l ||| 2 ^ n := by unfold ofN; rw [List.foldl_append]; rfl

/-- The lowest nodes of s, at most n, among those below k. -/
def lowk (s n k : Nat) : Nat := ofN ((lstk s k).take n)

theorem lowk_lt (s n : Nat) {k : Nat} (hk : k ≤ 32) : lowk s n k < 4294967296 := by
  refine ofN_lt fun x hx => ?_
  have := (mem_lstk.1 (List.take_subset _ _ hx)).1
  omega

theorem lowk_cnt (s n : Nat) {k : Nat} (hk : k ≤ 32) : cnt (lowk s n k) = min n (lstk s k).length := by
  unfold cnt lowk
  rw [lst_ofN (((List.take_sublist _ _).trans (lstk_sub s k)).trans (range_sub hk)), List.length_take]

theorem lowk_succ (s n : Nat) {k : Nat} (hk : k < 32) : lowk s n (k + 1) = if s.testBit k ∧ cnt (lowk s n k) < n then lowk s n k ||| 2 ^ k else lowk s n k := by
  rw [lowk_cnt s n (by omega)]
  unfold lowk
  rw [lstk_succ]
  by_cases hb : s.testBit k = true
  · simp only [hb, if_true, true_and]
    split
    · rename_i h
      have h1 : (lstk s k).length < n := by omega
      rw [List.take_of_length_le (by simp; omega), List.take_of_length_le (by omega), ofN_append]
    · rename_i h
      rw [List.take_append_of_le_length (by omega)]
  · simp [hb]

theorem lst_low (s n : Nat) : lst (lowk s n 32) = (lst s).take n := by
  unfold lowk
  rw [lst_ofN ((List.take_sublist _ _).trans (lstk_sub s 32))]; rfl

theorem rising (s k : Nat) : (lstk s k).Pairwise (· < ·) := List.Pairwise.sublist (lstk_sub s k) (List.pairwise_lt_range)

/-- What is left of s without its n lowest nodes. -/
theorem lst_rest (s n : Nat) : lst (s &&& (4294967295 - lowk s n 32)) = (lst s).drop n := by
  have hl := lowk_lt s n (Nat.le_refl 32)
  have hbit : ∀ i, i < 32 → (4294967295 - lowk s n 32).testBit i = !(lowk s n 32).testBit i := by
    intro i hi
    have := Nat.testBit_two_pow_sub_succ (x := lowk s n 32) (n := 32) (by simpa using hl) i
    rw [show (2 : Nat) ^ 32 - (lowk s n 32 + 1) = 4294967295 - lowk s n 32 by omega] at this
    rw [this]; simp [hi]
  have e1 : lst (s &&& (4294967295 - lowk s n 32)) = (List.range 32).filter (fun i => decide (i ∈ (lst s).drop n)) := by
    unfold lst
    conv => lhs; unfold lstk
    apply List.filter_congr
    intro i hi
    have hi' : i < 32 := by simpa using hi
    rw [Nat.testBit_and, hbit i hi', show (lowk s n 32).testBit i = decide (i ∈ (lstk s 32).take n) from ofN_bit _ i]
    have hr := rising s 32
    have hsplit := List.take_append_drop n (lstk s 32)
    rw [← hsplit] at hr
    have hlt := (List.pairwise_append.1 hr).2.2
    by_cases h1 : s.testBit i = true
    · have hm : i ∈ (lstk s 32).take n ++ (lstk s 32).drop n := by rw [hsplit]; exact mem_lstk.2 ⟨hi', h1⟩
      by_cases h2 : i ∈ (lstk s 32).take n
      · have h3 : i ∉ (lstk s 32).drop n := fun h => Nat.lt_irrefl _ (hlt i h2 i h)
        simp [h1, h2, h3]
      · have h3 : i ∈ (lstk s 32).drop n := by rcases List.mem_append.1 hm with h | h; exact absurd h h2; exact h
        simp [h1, h2, h3]
    · have h3 : i ∉ (lstk s 32).drop n := fun h => h1 (mem_lstk.1 (List.drop_subset _ _ h)).2
      simp [h1, h3]
  rw [e1]
  exact filter_sub ((List.drop_sublist _ _).trans (lstk_sub s 32)) List.nodup_range

theorem low_zero (s : Nat) : lowk s 0 32 = 0 := by simp [lowk, ofN]

theorem low_k0 (s n : Nat) : lowk s n 0 = 0 := by simp [lowk, lstk, ofN]

theorem within_low (s n : Nat) : lowk s n 32 &&& (4294967295 - s) = 0 ∨ ¬ s < 4294967296 := by
  by_cases hs : s < 4294967296
  · left
    apply Nat.eq_of_testBit_eq
    intro i
    rw [Nat.testBit_and, Nat.zero_testBit]
    have := Nat.testBit_two_pow_sub_succ (x := s) (n := 32) (by simpa using hs) i
    rw [show (2 : Nat) ^ 32 - (s + 1) = 4294967295 - s by omega] at this
    rw [this, show (lowk s n 32).testBit i = decide (i ∈ (lstk s 32).take n) from ofN_bit _ i]
    by_cases h2 : i ∈ (lstk s 32).take n
    · have := (mem_lstk.1 (List.take_subset _ _ h2)).2
      simp [this]
    · simp [h2]
  · exact .inr hs

end Go.Proofs.YtflapjehkgefdaaGreat.Nd
