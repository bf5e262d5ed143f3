/- Lists of numbers in memory; the set of a list, the list of a set, the lowest nodes. -/
import Derived.Test.YtflapjehkgefdaaGreatNdOps
namespace Go.Proofs.YtflapjehkgefdaaGreat.Nd
open Go.RowKit

def I (x : Int) : Value := .int .i64 x

def NOwn (w : World) (base : Nat) (v : Value) (C : List Int) : Prop := w.ownsRow base 3 1 v C.length (C.map I)

theorem info3 : (Tryz.prog.info? 3).map (fun i => (i.zero, i.size, i.bytes)) = some (some (.int .i64 0), 1, 8) := by kernel_rfl

theorem I_one (Z : List Int) : ∀ u ∈ Z.map I, u.oneCell' = true := by
  intro u hu; simp at hu; obtain ⟨x, _, rfl⟩ := hu; rfl

theorem int_one (x : Int) : ∀ u ∈ [Value.int .i64 x], u.oneCell' = true := by
  intro u hu; simp at hu; subst hu; rfl

/-- These numbers lie behind a. -/
theorem iat_cell {w : World} {b o : Nat} {Z : List Int} (h : CAt w (some ⟨b, o, none⟩) (Z.map I)) (i : Nat) (hi : i < Z.length) : w.cell? ⟨b, o + i, none⟩ = some (.int .i64 Z[i]) := by
  obtain ⟨b', o', e, hc⟩ := h (by intro e; simp at e; rw [e] at hi; simp at hi)
  cases e
  rw [hc i (by simpa using hi)]
  simp [I]

theorem iat_place {w : World} {a : Option Addr} {Z : List Int} (h : CAt w a (Z.map I)) (hz : Z ≠ []) : ∃ b o, a = some ⟨b, o, none⟩ := by
  obtain ⟨b, o, e, _⟩ := h (by simpa using hz)
  exact ⟨b, o, e⟩

/-- The set of the nodes in l, and 0; 0 and 2 if one of them is no node. -/
def ofP (l : List Int) : Nat × Int := if l.all (fun n => decide (0 ≤ n) && decide (n < 32)) then (ofN (l.map Int.toNat), 0) else (0, 2)

theorem ofP_bad {l : List Int} {j : Nat} (hj : j < l.length) (h : l[j] < 0 ∨ 32 ≤ l[j]) : ofP l = (0, 2) := by
  unfold ofP
  rw [if_neg]
  intro ha
  have := List.all_eq_true.1 ha l[j] (List.getElem_mem hj)
  simp at this
  omega

/-- All of the first j are nodes. -/
def OkTo (l : List Int) (j : Nat) : Prop := ∀ n ∈ l.take j, 0 ≤ n ∧ n < 32

theorem OkTo.next {l : List Int} {j : Nat} (h : OkTo l j) (hj : j < l.length) (h0 : 0 ≤ l[j]) (h1 : l[j] < 32) : OkTo l (j + 1) := by
  intro n hn
  rw [List.take_add_one, List.getElem?_eq_getElem hj] at hn
  rcases List.mem_append.1 hn with h2 | h2
  · exact h n h2
  · simp at h2; subst h2; exact ⟨h0, h1⟩

theorem ofP_ok {l : List Int} (h : OkTo l l.length) : ofP l = (ofN (l.map Int.toNat), 0) := by
  unfold ofP
  rw [if_pos]
  rw [List.all_eq_true]
  intro n hn
  have := h n (by rw [List.take_length]; exact hn)
  simp [this]

/-- The set of the first j. -/
def setTo (l : List Int) (j : Nat) : Nat := ofN ((l.take j).map Int.toNat)

theorem setTo_succ {l : List Int} {j : Nat} (hj : j < l.length) : setTo l (j + 1) = setTo l j ||| 2 ^ (l[j]).toNat := by
  unfold setTo
  rw [List.take_add_one, List.getElem?_eq_getElem hj, List.map_append]
  exact ofN_append _ _

theorem setTo_lt {l : List Int} {j : Nat} (h : OkTo l j) : setTo l j < 4294967296 := by
  refine ofN_lt fun n hn => ?_
  obtain ⟨x, hx, rfl⟩ := List.mem_map.1 hn
  have := h x hx
  omega

theorem or_nat (s t : Nat) (hs : s < 4294967296) (ht : t < 4294967296) : bits .or .u32 (s : Int) (t : Int) = ((s ||| t : Nat) : Int) := u32_or_nat s t hs ht

theorem or_pow (s n : Nat) (hs : s < 4294967296) (hn : n < 32) : bits .or .u32 (s : Int) (2 ^ n) = ((s ||| 2 ^ n : Nat) : Int) := by
  have h2 : ((2 ^ n : Nat) : Int) = 2 ^ n := by push_cast; rfl
  rw [← h2]
  exact u32_or_nat s _ hs (pow_lt32 hn)

def L2 (l : List Nat) : List Int := l.map Int.ofNat

end Go.Proofs.YtflapjehkgefdaaGreat.Nd
