/- Sets of nodes as numbers below 2 to the 32: bits, lists of nodes, how many; plain. -/
import Derived.Test.YtilncacmkfohdaaGreatRows
import Derived.Laws.BitsAllLaws
import Derived.Test.YtilncacmkfohdaaGreatMem
import Derived.Lib.BitFns
namespace Go.Proofs.YtilncacmkfohdaaGreat.Nd

/-- The nodes of s below k, rising. -/
def lstk (s k : Nat) : List Nat := (List.range k).filter s.testBit

def lst (s : Nat) : List Nat := lstk s 32

/-- How many nodes s has. -/
def cnt (s : Nat) : Nat := (lst s).length

/-- The set of these nodes. -/
def ofN (l : List Nat) : Nat := l.foldl (fun s n => s ||| 2 ^ n) 0

theorem and_pow (s n : Nat) : (s &&& 2 ^ n = 0) ↔ s.testBit n = false := by
  constructor
  · intro h
    have := congrArg (fun x => x.testBit n) h
    simpa using this
  · intro h
    apply Nat.eq_of_testBit_eq
    intro i
    simp only [Nat.testBit_and, Nat.testBit_two_pow, Nat.zero_testBit]
    by_cases e : n = i
    · subst e; simp [h]
    · simp [e]

theorem has_eq (s n : Nat) : (!decide (((s &&& 2 ^ n : Nat) : Int) = 0)) = s.testBit n := by
  cases h : s.testBit n
  · simp; exact_mod_cast (and_pow s n).2 h
  · simp
    intro h2
    have h3 := (and_pow s n).1 (by exact_mod_cast h2)
    rw [h] at h3; cases h3

theorem ofN_from (l : List Nat) (s i : Nat) : (l.foldl (fun s n => s ||| 2 ^ n) s).testBit i = (s.testBit i || decide (i ∈ l)) := by
  induction l generalizing s with
  | nil => simp
  | cons a t ih =>
    rw [List.foldl_cons, ih, Nat.testBit_or, Nat.testBit_two_pow]
    by_cases e : a = i
    · subst e; simp
    · have e' : ¬ i = a := fun h => e h.symm
      simp [e, e']

theorem ofN_bit (l : List Nat) (i : Nat) : (ofN l).testBit i = decide (i ∈ l) := by
  unfold ofN; rw [ofN_from]; simp

theorem or_lt {s n : Nat} (hs : s < 4294967296) (hn : n < 32) : s ||| 2 ^ n < 4294967296 := by
  have h1 : (2 : Nat) ^ n < 2 ^ 32 := Nat.pow_lt_pow_right (by omega) hn
  exact Nat.or_lt_two_pow (n := 32) (by simpa using hs) h1

theorem bit_lt {s i : Nat} (hs : s < 4294967296) (h : s.testBit i = true) : i < 32 := by
  rcases Nat.lt_or_ge i 32 with h1 | h1
  · exact h1
  · have : s < 2 ^ i := Nat.lt_of_lt_of_le (show s < 2 ^ 32 by simpa using hs) (Nat.pow_le_pow_right (by omega) h1)
    rw [Nat.testBit_lt_two_pow this] at h; cases h

theorem ext32 {a b : Nat} (ha : a < 4294967296) (hb : b < 4294967296) (h : ∀ i, i < 32 → a.testBit i = b.testBit i) : a = b := by
  apply Nat.eq_of_testBit_eq
  intro i
  by_cases hi : i < 32
  · exact h i hi
  · cases h1 : a.testBit i
    · cases h2 : b.testBit i
      · rfl
      · exact absurd (bit_lt hb h2) hi
    · exact absurd (bit_lt ha h1) hi

theorem ofN_lt {l : List Nat} (h : ∀ n ∈ l, n < 32) : ofN l < 4294967296 := by
  suffices ∀ (l : List Nat) (s : Nat), s < 4294967296 → (∀ n ∈ l, n < 32) → l.foldl (fun s n => s ||| 2 ^ n) s < 4294967296 from this l 0 (by omega) h
  intro l
  induction l with
  | nil => intro s hs _; exact hs
  | cons a t ih => intro s hs h; exact ih _ (or_lt hs (h a (by simp))) (fun n hn => h n (by simp [hn]))

theorem mem_lstk {s k i : Nat} : i ∈ lstk s k ↔ i < k ∧ s.testBit i = true := by simp [lstk]

theorem mem_lst {s i : Nat} : i ∈ lst s ↔ i < 32 ∧ s.testBit i = true := mem_lstk

theorem ofN_lst {s : Nat} (hs : s < 4294967296) : ofN (lst s) = s := by
  refine ext32 (ofN_lt fun n hn => (mem_lst.1 hn).1) hs fun i hi => ?_
  rw [ofN_bit]
  cases h : s.testBit i <;> simp [mem_lst, hi, h]

theorem filter_sub {α : Type} [DecidableEq α] {l m : List α} (h : l.Sublist m) (hm : m.Nodup) : m.filter (fun x => decide (x ∈ l)) = l := by
  induction h with
  | slnil => rfl
  | @cons l' m' a h ih =>
    have hn := List.nodup_cons.1 hm
    rw [List.filter_cons_of_neg (by simp; exact fun h2 => hn.1 (h.subset h2))]
    exact ih hn.2
  | @cons_cons l' m' a h ih =>
    have hn := List.nodup_cons.1 hm
    rw [List.filter_cons_of_pos (by simp)]
    congr 1
    have e := ih hn.2
    conv => rhs; rw [← e]
    apply List.filter_congr
    intro x hx
    have : x ≠ a := fun h2 => hn.1 (h2 ▸ hx)
    simp [this]

/-- A set that is made of rising nodes has just these. -/
theorem lst_ofN {l : List Nat} (h : l.Sublist (List.range 32)) : lst (ofN l) = l := by
  have e := filter_sub h List.nodup_range
  conv => rhs; rw [← e]
  unfold lst lstk
  apply List.filter_congr
  intro x _
  exact ofN_bit l x

theorem lstk_sub (s k : Nat) : (lstk s k).Sublist (List.range k) := List.filter_sublist

theorem lstk_succ (s k : Nat) : lstk s (k + 1) = if s.testBit k then lstk s k ++ [k] else lstk s k := by
  unfold lstk
  rw [List.range_succ, List.filter_append]
  cases h : s.testBit k <;> simp [h]

theorem range_sub {k m : Nat} (h : k ≤ m) : (List.range k).Sublist (List.range m) := by
  have : List.range k = (List.range m).take k := by rw [List.take_range]; congr 1; omega
  rw [this]
  exact List.take_sublist _ _

theorem lstk_len (s k : Nat) : (lstk s k).length ≤ k := by
  have := (lstk_sub s k).length_le
  simpa using this

theorem cnt_le (s : Nat) : cnt s ≤ 32 := lstk_len s 32

theorem ofN_append (l : List Nat) (n : Nat) : ofN (l ++ [n]) = ofN l ||| 2 ^ n := by unfold ofN; rw [List.foldl_append]; rfl

/-- The lowest nodes of s, at most n, among those below k. -/
def lowk (s n k : Nat) : Nat := ofN ((lstk s k).take n)

theorem lowk_lt (s n : Nat) {k : Nat} (hk : k ≤ 32) : lowk s n k < 4294967296 := by
  refine ofN_lt fun x hx => ?_
  have := (mem_lstk.1 (List.take_subset _ _ hx)).1
  omega

theorem lowk_cnt (s n : Nat) {k : Nat} (hk : k ≤ 32) : cnt (lowk s n k) = min n (lstk s k).length := by
  unfold cnt lowk
  rw [lst_ofN (((List.take_sublist _ _).trans (lstk_sub s k)).trans (range_sub hk)), List.length_take]

theorem lowk_succ (s n : Nat) {k : Nat} (hk : k < 32) : lowk s n (k + 1) = if s.testBit k ∧ cnt (lowk s n k) < n then lowk s n k ||| 2 ^ k else lowk s n k := by
  rw [lowk_cnt s n (by omega)]
  unfold lowk
  rw [lstk_succ]
  by_cases hb : s.testBit k = true
  · simp only [hb, if_true, true_and]
    split
    · rename_i h
      have h1 : (lstk s k).length < n := by omega
      rw [List.take_of_length_le (by simp; omega), List.take_of_length_le (by omega), ofN_append]
    · rename_i h
      rw [List.take_append_of_le_length (by omega)]
  · simp [hb]

theorem lst_low (s n : Nat) : lst (lowk s n 32) = (lst s).take n := by
  unfold lowk
  rw [lst_ofN ((List.take_sublist _ _).trans (lstk_sub s 32))]; rfl

theorem rising (s k : Nat) : (lstk s k).Pairwise (· < ·) := List.Pairwise.sublist (lstk_sub s k) (List.pairwise_lt_range)

/-- What is left of s without its n lowest nodes. -/
theorem lst_rest (s n : Nat) : lst (s &&& (4294967295 - lowk s n 32)) = (lst s).drop n := by
  have hl := lowk_lt s n (Nat.le_refl 32)
  have hbit : ∀ i, i < 32 → (4294967295 - lowk s n 32).testBit i = !(lowk s n 32).testBit i := by
    intro i hi
    have := Nat.testBit_two_pow_sub_succ (x := lowk s n 32) (n := 32) (by simpa using hl) i
    rw [show (2 : Nat) ^ 32 - (lowk s n 32 + 1) = 4294967295 - lowk s n 32 by omega] at this
    rw [this]; simp [hi]
  have e1 : lst (s &&& (4294967295 - lowk s n 32)) = (List.range 32).filter (fun i => decide (i ∈ (lst s).drop n)) := by
    unfold lst
    conv => lhs; unfold lstk
    apply List.filter_congr
    intro i hi
    have hi' : i < 32 := by simpa using hi
    rw [Nat.testBit_and, hbit i hi', show (lowk s n 32).testBit i = decide (i ∈ (lstk s 32).take n) from ofN_bit _ i]
    have hr := rising s 32
    have hsplit := List.take_append_drop n (lstk s 32)
    rw [← hsplit] at hr
    have hlt := (List.pairwise_append.1 hr).2.2
    by_cases h1 : s.testBit i = true
    · have hm : i ∈ (lstk s 32).take n ++ (lstk s 32).drop n := by rw [hsplit]; exact mem_lstk.2 ⟨hi', h1⟩
      by_cases h2 : i ∈ (lstk s 32).take n
      · have h3 : i ∉ (lstk s 32).drop n := fun h => Nat.lt_irrefl _ (hlt i h2 i h)
        simp [h1, h2, h3]
      · have h3 : i ∈ (lstk s 32).drop n := by rcases List.mem_append.1 hm with h | h; exact absurd h h2; exact h
        simp [h1, h2, h3]
    · have h3 : i ∉ (lstk s 32).drop n := fun h => h1 (mem_lstk.1 (List.drop_subset _ _ h)).2
      simp [h1, h3]
  rw [e1]
  exact filter_sub ((List.drop_sublist _ _).trans (lstk_sub s 32)) List.nodup_range

theorem low_zero (s : Nat) : lowk s 0 32 = 0 := by simp [lowk, ofN]

theorem low_k0 (s n : Nat) : lowk s n 0 = 0 := by simp [lowk, lstk, ofN]

theorem within_low (s n : Nat) : lowk s n 32 &&& (4294967295 - s) = 0 ∨ ¬ s < 4294967296 := by
  by_cases hs : s < 4294967296
  · left
    apply Nat.eq_of_testBit_eq
    intro i
    rw [Nat.testBit_and, Nat.zero_testBit]
    have := Nat.testBit_two_pow_sub_succ (x := s) (n := 32) (by simpa using hs) i
    rw [show (2 : Nat) ^ 32 - (s + 1) = 4294967295 - s by omega] at this
    rw [this, show (lowk s n 32).testBit i = decide (i ∈ (lstk s 32).take n) from ofN_bit _ i]
    by_cases h2 : i ∈ (lstk s 32).take n
    · have := (mem_lstk.1 (List.take_subset _ _ h2)).2
      simp [this]
    · simp [h2]
  · exact .inr hs

end Go.Proofs.YtilncacmkfohdaaGreat.Nd

namespace Go.Proofs.YtilncacmkfohdaaGreat.Nd
open Go.RowKit

theorem pow_lt32 {n : Nat} (hn : n < 32) : 2 ^ n < 4294967296 := by
  have : (2 : Nat) ^ n < 2 ^ 32 := Nat.pow_lt_pow_right (by omega) hn
  simpa using this

theorem only_any (n : Nat) (hn : n < 32) (w : World) : Calls Tryz.prog 53 #[.int .i64 (n : Int)] w fun e w' => e = .returned (.int .u32 ((2 ^ n : Nat) : Int)) ∧ w' = w := by
  have hp := pow_lt32 hn
  go_enter Tryz.func53, Tryz.ntmps53
  go_wp2
  go_ret
  refine ⟨ret_int ?_, rfl⟩
  have h2 : ((2 ^ n : Nat) : Int) = 2 ^ n := by push_cast; rfl
  rw [← h2]
  generalize 2 ^ n = x at hp
  omega

theorem bit_and (s n : Nat) (hs : s < 4294967296) (hn : n < 32) : (bits .and .u32 (s : Int) (2 ^ n) != 0) = s.testBit n := by
  have : ((2 ^ n : Nat) : Int) = 2 ^ n := by push_cast; rfl
  rw [← this, u32_and_nat s (2 ^ n) hs (pow_lt32 hn), ← has_eq]
  rw [bne]
  generalize ((s &&& 2 ^ n : Nat) : Int) = x
  by_cases h : x = 0 <;> simp [h]

theorem has_any (s n : Nat) (hs : s < 4294967296) (hn : n < 32) (w : World) : Calls Tryz.prog 52 #[.int .u32 (s : Int), .int .i64 (n : Int)] w fun e w' => e = .returned (.bool (s.testBit n)) ∧ w' = w := by
  go_enter Tryz.func52, Tryz.ntmps52
  go_wp2_with (go_at_call 53; refine (only_any n hn _).mono ?_; rintro e w' ⟨rfl, rfl⟩)
  go_ret
  exact ⟨ret_bool (bit_and s n hs hn), rfl⟩

/-- How many of the eight bits from 8 k on are there. -/
def c8 (s k : Nat) : Nat := ((List.range 8).filter fun i => s.testBit (8 * k + i)).length

theorem cnt_c8 (s : Nat) : cnt s = c8 s 3 + c8 s 2 + c8 s 1 + c8 s 0 := by
  have e : List.range 32 = List.range 8 ++ ((List.range 8).map fun i => 8 * 1 + i) ++ ((List.range 8).map fun i => 8 * 2 + i) ++ ((List.range 8).map fun i => 8 * 3 + i) := by decide
  unfold cnt lst lstk c8
  rw [e]
  simp only [List.filter_append, List.length_append, List.filter_map, List.length_map, Function.comp_def, Nat.mul_zero, Nat.zero_add]
  show ((List.range 8).filter (fun i => s.testBit i)).length + _ + _ + _ = _
  omega

theorem pop8_c : ∀ n : Fin 256, Lib.pop8 (n.val : Int) = (((List.range 8).filter fun i => n.val.testBit i).length : Int) := by decide +kernel

theorem c8_eq (s k x : Nat) (hx : x = (s >>> (8 * k)) &&& 255) : Lib.pop8 (x : Int) = (c8 s k : Int) := by
  have hl : x < 256 := by rw [hx]; exact Nat.lt_of_le_of_lt Nat.and_le_right (by omega)
  have h := pop8_c ⟨x, hl⟩
  rw [h]
  unfold c8
  congr 2
  apply List.filter_congr
  intro i hi
  have hi8 : i < 8 := by simpa using hi
  simp only [hx, Nat.testBit_and, Nat.testBit_shiftRight]
  have : Nat.testBit 255 i = true := by
    have : ∀ i : Fin 8, Nat.testBit 255 i.val = true := by decide
    exact this ⟨i, hi8⟩
  simp [this]

theorem fold_tab : (⟨(([0, 1, 1, 2, 1, 2, 2, 3, 1, 2, 2, 3, 2, 3, 3, 4, 1, 2, 2, 3, 2, 3, 3, 4, 2, 3, 3, 4, 3, 4, 4, 5, 1, 2, 2, 3, 2, 3, 3, 4, 2, 3, 3, 4, 3, 4, 4, 5, 2, 3, 3, 4, 3, 4, 4, 5, 3, 4, 4, 5, 4, 5, 5, 6].append [1, 2, 2, 3, 2, 3, 3, 4, 2, 3, 3, 4, 3, 4, 4, 5, 2, 3, 3, 4, 3, 4, 4, 5, 3, 4, 4, 5, 4, 5, 5, 6, 2, 3, 3, 4, 3, 4, 4, 5, 3, 4, 4, 5, 4, 5, 5, 6, 3, 4, 4, 5, 4, 5, 5, 6, 4, 5, 5, 6, 5, 6, 6, 7]).append ([1, 2, 2, 3, 2, 3, 3, 4, 2, 3, 3, 4, 3, 4, 4, 5, 2, 3, 3, 4, 3, 4, 4, 5, 3, 4, 4, 5, 4, 5, 5, 6, 2, 3, 3, 4, 3, 4, 4, 5, 3, 4, 4, 5, 4, 5, 5, 6, 3, 4, 4, 5, 4, 5, 5, 6, 4, 5, 5, 6, 5, 6, 6, 7].append [2, 3, 3, 4, 3, 4, 4, 5, 3, 4, 4, 5, 4, 5, 5, 6, 3, 4, 4, 5, 4, 5, 5, 6, 4, 5, 5, 6, 5, 6, 6, 7, 3, 4, 4, 5, 4, 5, 5, 6, 4, 5, 5, 6, 5, 6, 6, 7, 4, 5, 5, 6, 5, 6, 6, 7, 5, 6, 6, 7, 6, 7, 7, 8])).toArray⟩ : ByteArray) = Lib.pop8tab := by decide +kernel

theorem c8_le (s k : Nat) : c8 s k ≤ 8 := by
  have := List.length_filter_le (fun i => s.testBit (8 * k + i)) (List.range 8)
  simpa [c8] using this

theorem ones_any (s : Nat) (hs : s < 4294967296) (w : World) : Calls Tryz.prog 73 #[.int .u32 (s : Int)] w fun e w' => e = .returned (.int .i64 (cnt s : Int)) ∧ Below w.heap.size w w' := by
  have sh : ∀ k d : Nat, 2 ^ (8 * k) = d → (s : Int) / (d : Int) = ((s >>> (8 * k) : Nat) : Int) := by
    intro k d hd
    rw [Nat.shiftRight_eq_div_pow, hd, Int.natCast_ediv]
  have hle : ∀ k, s >>> (8 * k) < 4294967296 := fun k => by rw [Nat.shiftRight_eq_div_pow]; exact Nat.lt_of_le_of_lt (Nat.div_le_self _ _) hs
  have b1 : bits .and .u32 ((s : Int) / 65536) 255 = (((s >>> (8 * 2)) &&& 255 : Nat) : Int) := by
    have e := sh 2 65536 (by decide)
    refine (congrArg (fun x => bits .and .u32 x 255) e).trans (u32_and_nat _ 255 (hle 2) (by omega))
  have b2 : bits .and .u32 ((s : Int) / 256) 255 = (((s >>> (8 * 1)) &&& 255 : Nat) : Int) := by
    have e := sh 1 256 (by decide)
    refine (congrArg (fun x => bits .and .u32 x 255) e).trans (u32_and_nat _ 255 (hle 1) (by omega))
  have b3 : bits .and .u32 (s : Int) 255 = (((s >>> (8 * 0)) &&& 255 : Nat) : Int) := u32_and_nat _ 255 hs (by omega)
  have b0 : (s : Int) / 16777216 = (((s >>> (8 * 3)) &&& 255 : Nat) : Int) := by
    have l8 : s >>> (8 * 3) < 2 ^ 8 := by rw [Nat.shiftRight_eq_div_pow]; omega
    have l9 : s >>> (8 * 3) &&& 255 = s >>> (8 * 3) := Nat.and_two_pow_sub_one_of_lt_two_pow (n := 8) l8
    rw [l9, Nat.shiftRight_eq_div_pow]
    omega
  have r : ∀ k, (((s >>> (8 * k)) &&& 255 : Nat) : Int) ≤ 255 := fun k => Int.ofNat_le.2 Nat.and_le_right
  have r1 : 0 ≤ bits .and .u32 ((s : Int) / 65536) 255 := by rw [b1]; omega
  have q1 : bits .and .u32 ((s : Int) / 65536) 255 ≤ 255 := by rw [b1]; exact r 2
  have r2 : 0 ≤ bits .and .u32 ((s : Int) / 256) 255 := by rw [b2]; omega
  have q2 : bits .and .u32 ((s : Int) / 256) 255 ≤ 255 := by rw [b2]; exact r 1
  have r3 : 0 ≤ bits .and .u32 (s : Int) 255 := by rw [b3]; omega
  have q3 : bits .and .u32 (s : Int) 255 ≤ 255 := by rw [b3]; exact r 0
  have r0 : 0 ≤ (s : Int) / 16777216 := by omega
  have q0 : (s : Int) / 16777216 ≤ 255 := by omega
  replace b0 := hid b0; replace b1 := hid b1; replace b2 := hid b2; replace b3 := hid b3
  go_enter Tryz.func73, Tryz.ntmps73
  go_wp2
  simp only [fold_tab]
  go_quiet (fail)
  go_wp2
  go_ret
  refine ⟨ret_int ?_, ⟨rfl, rfl, rfl, Nat.le_refl _, fun _ _ => rfl⟩⟩
  have p0 := c8_eq s 3 _ rfl
  have p1 := c8_eq s 2 _ rfl
  have p2 := c8_eq s 1 _ rfl
  have p3 := c8_eq s 0 _ rfl
  rw [← b0.out] at p0
  rw [← b1.out] at p1
  rw [← b2.out] at p2
  rw [← b3.out] at p3
  have l0 := c8_le s 0
  have l1 := c8_le s 1
  have l2 := c8_le s 2
  have l3 := c8_le s 3
  have ce := cnt_c8 s
  rw [show Lib.pop8 ((s : Int) / 16777216) = (c8 s 3 : Int) from p0, p1, p2, p3]
  omega

theorem count_any (s : Nat) (hs : s < 4294967296) (w : World) : Calls Tryz.prog 51 #[.int .u32 (s : Int)] w fun e w' => e = .returned (.int .i64 (cnt s : Int)) ∧ Below w.heap.size w w' := by
  go_enter Tryz.func51, Tryz.ntmps51
  go_wp2_with (go_at_call 73; refine (ones_any s hs _).mono ?_; rintro e w1 ⟨rfl, hb1⟩)
  go_ret
  exact ⟨rfl, hb1⟩

end Go.Proofs.YtilncacmkfohdaaGreat.Nd

namespace Go.Proofs.YtilncacmkfohdaaGreat.Nd
open Go.RowKit

def I (x : Int) : Value := .int .i64 x

def NOwn (w : World) (base : Nat) (v : Value) (C : List Int) : Prop := w.ownsRow base 3 1 v C.length (C.map I)

theorem info3 : (Tryz.prog.info? 3).map (fun i => (i.zero, i.size, i.bytes)) = some (some (.int .i64 0), 1, 8) := by kernel_rfl

theorem I_one (Z : List Int) : ∀ u ∈ Z.map I, u.oneCell' = true := by
  intro u hu; simp at hu; obtain ⟨x, _, rfl⟩ := hu; rfl

theorem int_one (x : Int) : ∀ u ∈ [Value.int .i64 x], u.oneCell' = true := by
  intro u hu; simp at hu; subst hu; rfl

/-- These numbers lie behind a. -/
theorem iat_cell {w : World} {b o : Nat} {Z : List Int} (h : CAt w (some ⟨b, o, none⟩) (Z.map I)) (i : Nat) (hi : i < Z.length) : w.cell? ⟨b, o + i, none⟩ = some (.int .i64 Z[i]) := by
  obtain ⟨b', o', e, hc⟩ := h (by intro e; simp at e; rw [e] at hi; simp at hi)
  cases e
  rw [hc i (by simpa using hi)]
  simp [I]

theorem iat_place {w : World} {a : Option Addr} {Z : List Int} (h : CAt w a (Z.map I)) (hz : Z ≠ []) : ∃ b o, a = some ⟨b, o, none⟩ := by
  obtain ⟨b, o, e, _⟩ := h (by simpa using hz)
  exact ⟨b, o, e⟩

/-- The set of the nodes in l, and 0; 0 and 2 if one of them is no node. -/
def ofP (l : List Int) : Nat × Int := if l.all (fun n => decide (0 ≤ n) && decide (n < 32)) then (ofN (l.map Int.toNat), 0) else (0, 2)

theorem ofP_bad {l : List Int} {j : Nat} (hj : j < l.length) (h : l[j] < 0 ∨ 32 ≤ l[j]) : ofP l = (0, 2) := by
  unfold ofP
  rw [if_neg]
  intro ha
  have := List.all_eq_true.1 ha l[j] (List.getElem_mem hj)
  simp at this
  omega

/-- All of the first j are nodes. -/
def OkTo (l : List Int) (j : Nat) : Prop := ∀ n ∈ l.take j, 0 ≤ n ∧ n < 32

theorem OkTo.next {l : List Int} {j : Nat} (h : OkTo l j) (hj : j < l.length) (h0 : 0 ≤ l[j]) (h1 : l[j] < 32) : OkTo l (j + 1) := by
  intro n hn
  rw [List.take_add_one, List.getElem?_eq_getElem hj] at hn
  rcases List.mem_append.1 hn with h2 | h2
  · exact h n h2
  · simp at h2; subst h2; exact ⟨h0, h1⟩

theorem ofP_ok {l : List Int} (h : OkTo l l.length) : ofP l = (ofN (l.map Int.toNat), 0) := by
  unfold ofP
  rw [if_pos]
  rw [List.all_eq_true]
  intro n hn
  have := h n (by rw [List.take_length]; exact hn)
  simp [this]

/-- The set of the first j. -/
def setTo (l : List Int) (j : Nat) : Nat := ofN ((l.take j).map Int.toNat)

theorem setTo_succ {l : List Int} {j : Nat} (hj : j < l.length) : setTo l (j + 1) = setTo l j ||| 2 ^ (l[j]).toNat := by
  unfold setTo
  rw [List.take_add_one, List.getElem?_eq_getElem hj, List.map_append]
  exact ofN_append _ _

theorem setTo_lt {l : List Int} {j : Nat} (h : OkTo l j) : setTo l j < 4294967296 := by
  refine ofN_lt fun n hn => ?_
  obtain ⟨x, hx, rfl⟩ := List.mem_map.1 hn
  have := h x hx
  omega

theorem or_nat (s t : Nat) (hs : s < 4294967296) (ht : t < 4294967296) : bits .or .u32 (s : Int) (t : Int) = ((s ||| t : Nat) : Int) := u32_or_nat s t hs ht

theorem or_pow (s n : Nat) (hs : s < 4294967296) (hn : n < 32) : bits .or .u32 (s : Int) (2 ^ n) = ((s ||| 2 ^ n : Nat) : Int) := by
  have h2 : ((2 ^ n : Nat) : Int) = 2 ^ n := by push_cast; rfl
  rw [← h2]
  exact u32_or_nat s _ hs (pow_lt32 hn)

def L2 (l : List Nat) : List Int := l.map Int.ofNat

end Go.Proofs.YtilncacmkfohdaaGreat.Nd

namespace Go.Proofs.YtilncacmkfohdaaGreat.Nd
open Go.RowKit

def hasR (s : Nat) (i : Int) : Bool := decide (0 ≤ i) && (decide (i < 32) && s.testBit i.toNat)

theorem hasR_nat (s n : Nat) (hn : n < 32) : hasR s (n : Int) = s.testBit n := by simp [hasR]; omega

theorem half_bit (s n : Nat) : decide (s / 2 ^ n % 2 = 1) = s.testBit n := by
  rw [Nat.testBit_eq_decide_div_mod_eq]

/-- A node that is not there is added. -/
theorem add_or (s n : Nat) (hs : s < 4294967296) (hn : n < 32) (h : s.testBit n = false) : (s + 2 ^ n) % 4294967296 = s ||| 2 ^ n := by
  have hp := pow_lt32 hn
  have hand : s &&& 2 ^ n = 0 := (and_pow s n).2 h
  have e := BitVec.add_eq_or_of_and_eq_zero (BitVec.ofNat 32 s) (BitVec.ofNat 32 (2 ^ n)) (by
    apply BitVec.eq_of_toNat_eq
    rw [BitVec.toNat_and, BitVec.toNat_ofNat, BitVec.toNat_ofNat, Nat.mod_eq_of_lt hs, Nat.mod_eq_of_lt hp, hand]; rfl)
  have e2 := congrArg BitVec.toNat e
  rw [BitVec.toNat_add, BitVec.toNat_or, BitVec.toNat_ofNat, BitVec.toNat_ofNat, Nat.mod_eq_of_lt hs, Nat.mod_eq_of_lt hp] at e2
  exact e2

theorem or_same (s n : Nat) (h : s.testBit n = true) : s ||| 2 ^ n = s := by
  apply Nat.eq_of_testBit_eq
  intro i
  rw [Nat.testBit_or, Nat.testBit_two_pow]
  by_cases e : n = i
  · subst e; simp [h]
  · simp [e]

end Go.Proofs.YtilncacmkfohdaaGreat.Nd

namespace Go.Proofs.YtilncacmkfohdaaGreat.Nd
open Go.RowKit

theorem bit_not (x : Nat) (hx : x < 4294967296) (i : Nat) (hi : i < 32) : (4294967295 - x).testBit i = !x.testBit i := by
  have := Nat.testBit_two_pow_sub_succ (x := x) (n := 32) (by simpa using hx) i
  rw [show (2 : Nat) ^ 32 - (x + 1) = 4294967295 - x by omega] at this
  rw [this]; simp [hi]

set_option maxHeartbeats 400000 in
set_option maxRecDepth 100000 in
theorem list_any (s : Nat) (hs : s < 4294967296) (w : World) :
    Calls Tryz.prog 67 #[.int .u32 (s : Int)] w fun e w' => ∃ v, e = .returned v ∧ NOwn w' w.heap.size v (L2 (lst s)) ∧ Below w.heap.size w w' := by
  obtain ⟨i0, hi0, hz0, hz1, hz2⟩ := info_parts info3
  go_enter Tryz.func67, Tryz.ntmps67
  go_wp2_with fail
  go_loopw [3, 5] (fun v i wr => ∃ j : Nat, j ≤ 32 ∧ i = .int .i64 (j : Int) ∧ NOwn wr w.heap.size v (L2 (lstk s j)) ∧ Below w.heap.size w wr) (fun _ i _ => 32 - (intOf i).toNat)
  case atStart => exact ⟨0, Nat.zero_le _, rfl, by unfold NOwn; exact World.ownsRow_nil _ _ _ _, Below.refl _ _⟩
  case round =>
    obtain ⟨j, hj, rfl, hv, hb⟩ := hrel
    by_cases hlt : j < 32
    · have hse := lstk_succ s j
      have hlen := lstk_len s j
      cases hbit : s.testBit j
      · rw [hbit] at hse
        replace hse := hid hse
        replace hv := hid hv
        go_wp2_with (go_at_call 52; refine (has_any s j hs hlt _).mono ?_; rintro e w1 ⟨rfl, rfl⟩; rw [hbit])
        go_roundw
        case rel => exact ⟨j + 1, by omega, by go_num, by rw [hse.out]; exact hv.out, hb⟩
        case measure => simp [intOf]; omega
      · rw [hbit] at hse
        replace hse := hid hse
        replace hv := hid hv
        have hl2 : (L2 (lstk s j)).length ≤ 32 := by simp [L2]; omega
        go_wp2_with (first | (go_at_call 52; refine (has_any s j hs hlt _).mono ?_; rintro e w1 ⟨rfl, rfl⟩; rw [hbit]) | (at_builtin; refine Hid.out ?_))
        have bl := below_lit w1 (.cells #[.int .i64 (j : Int)] 3)
        have hv2 := owns_below hv.out bl
        have B1 := bnext hb bl
        refine wpList_cat _ rfl (.tmp 11) (.tmp 13) 22 rfl w.heap.size 3 i0 _ 1 8 Tryz.underlying22 hi0 hz0 hz1 hz2 rfl (by omega) _ _ _ rfl hv2 (some ⟨w1.heap.size, 0, none⟩) 1 _ [.int .i64 (j : Int)] rfl rfl (cat_lit _ _ _ _ rfl) (int_one _) (by unfold maxLen; omega) (by omega) B1.size ?_
        intro v3 w3 hr3 hg3 hv3
        go_wp2_with fail
        go_roundw
        case rel =>
          refine ⟨j + 1, by omega, by go_num, ?_, ?_⟩
          · rw [hse.out]
            unfold NOwn
            simpa [L2, I] using hr3
          · exact B1.grown hg3 B1.size (fun k hk => (hv2.lt k hk).1)
        case measure => simp [intOf]; omega
    · have hje : j = 32 := by omega
      subst hje
      go_wp2
      go_ret
      exact ⟨_, rfl, hv, hb⟩


/-- b has all of a's nodes below k. -/
def InTo (a b k : Nat) : Prop := ∀ i, i < k → a.testBit i = true → b.testBit i = true

theorem in_all {a b : Nat} (ha : a < 4294967296) (hb : b < 4294967296) : (a &&& (4294967295 - b) = 0) ↔ InTo a b 32 := by
  constructor
  · intro h i hi h1
    have := congrArg (fun x => x.testBit i) h
    simp only [Nat.testBit_and, bit_not b hb i hi, Nat.zero_testBit, h1, Bool.true_and] at this
    simpa using this
  · intro h
    refine ext32 (Nat.lt_of_le_of_lt Nat.and_le_left ha) (by omega) fun i hi => ?_
    rw [Nat.testBit_and, bit_not b hb i hi, Nat.zero_testBit]
    cases h1 : a.testBit i
    · rfl
    · rw [h i hi h1]; rfl

end Go.Proofs.YtilncacmkfohdaaGreat.Nd
