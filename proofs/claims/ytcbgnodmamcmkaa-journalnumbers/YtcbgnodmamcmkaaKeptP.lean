/- JournalKept, the plain side: what the files may hold behind a crash, and that each step of a journal keeps it so. -/
import Derived.Test.YtcbgnodmamcmkaaBackP
import Derived.Test.YtcbgnodmamcmkaaSnapC
namespace Go.Proofs.Ytcbgnodmamcmkaa

/-- The records behind the first a, up to the first m. -/
def seg (all : List KB) (a m : Nat) : List KB := (all.drop a).take (m - a)

theorem seg_len {all : List KB} {a m : Nat} (h : m ≤ all.length) : (seg all a m).length = m - a := by
  unfold seg; rw [List.length_take, List.length_drop]; omega
theorem seg_same (all : List KB) (a : Nat) : seg all a a = [] := by unfold seg; simp
theorem seg_snoc {all : List KB} {r : KB} {a m : Nat} (h : m ≤ all.length) : seg (all ++ [r]) a m = seg all a m := by
  unfold seg
  rcases Nat.lt_or_ge a all.length with h1 | h1
  · rw [List.drop_append_of_le_length (by omega), List.take_append_of_le_length (by rw [List.length_drop]; omega)]
  · rw [show m - a = 0 by omega]; simp
theorem seg_next {all : List KB} {r : KB} {a : Nat} (h : a ≤ all.length) : seg (all ++ [r]) a (all.length + 1) = seg all a all.length ++ [r] := by
  unfold seg
  rw [List.drop_append_of_le_length h]
  have h1 : all.length - a = (all.drop a).length := by rw [List.length_drop]
  rw [List.take_of_length_le (by rw [List.length_append, List.length_drop]; simp; omega), h1, List.take_length]
theorem seg_take {all : List KB} {a m n : Nat} (h : m ≤ n) : seg (all.take n) a m = seg all a m := by
  unfold seg
  rw [List.drop_take, List.take_take]
  congr 1
  omega
theorem seg_small {all : List KB} (hb : ∀ r ∈ all, r.2.length ≤ 65536) (a m : Nat) : ∀ r ∈ seg all a m, r.2.length ≤ 65536 := fun r hr => hb r (List.mem_of_mem_drop (List.mem_of_mem_take hr))

section
variable (st : Nat → List UInt8)

/-- The states that stand: the best one, number q, in file f (hv: there is one). -/
def Sts (F : Fs) (f q : Nat) (hv : Bool) : Prop :=
  (f = 1 ∨ f = 2) ∧ if hv = true then F f = entB q 255 (st q) ∧ (¬ IsState (F (3 - f)) ∨ ∃ r, r ≤ q ∧ F (3 - f) = entB r 255 (st r)) else q = 0 ∧ ¬ IsState (F 1) ∧ ¬ IsState (F 2)

/-- What files may hold of n records, at least lo of which are told. -/
def Good (F : Fs) (all : List KB) (lo : Nat) : Prop :=
  ∃ (f q : Nat) (hv : Bool) (a m : Nat) (z : List UInt8), Sts st F f q hv ∧ a ≤ q ∧ q ≤ all.length ∧ a ≤ m ∧ m ≤ all.length ∧ F 0 = logB (a + 1) (seg all a m) ++ z ∧
    (∀ nx, ¬ Stands (logB (a + 1) (seg all a m) ++ z) (logB (a + 1) (seg all a m)).length nx) ∧ (lo ≤ q ∨ lo ≤ m)

variable {st}

theorem Sts.congr {F G : Fs} {f q : Nat} {hv : Bool} (h : Sts st F f q hv) (h1 : G 1 = F 1) (h2 : G 2 = F 2) : Sts st G f q hv := by
  obtain ⟨hf, h⟩ := h
  have hFf : G f = F f := by rcases hf with rfl | rfl <;> assumption
  have hF3 : G (3 - f) = F (3 - f) := by rcases hf with rfl | rfl <;> assumption
  refine ⟨hf, ?_⟩
  rw [hFf, hF3, h1, h2]
  exact h

theorem Good.congr {F G : Fs} {all : List KB} {lo : Nat} (h : Good st F all lo) (he : ∀ i, i < 3 → G i = F i) : Good st G all lo := by
  obtain ⟨f, q, hv, a, m, z, h1, h2, h3, h4, h5, h6, h7⟩ := h
  exact ⟨f, q, hv, a, m, z, h1.congr (he 1 (by omega)) (he 2 (by omega)), h2, h3, h4, h5, by rw [he 0 (by omega)]; exact h6, h7⟩

theorem Good.less {F : Fs} {all : List KB} {lo lo' : Nat} (h : Good st F all lo) (hl : lo' ≤ lo) : Good st F all lo' := by
  obtain ⟨f, q, hv, a, m, z, h1, h2, h3, h4, h5, h6, h7, h8⟩ := h
  exact ⟨f, q, hv, a, m, z, h1, h2, h3, h4, h5, h6, h7, h8.elim (fun h => .inl (by omega)) (fun h => .inr (by omega))⟩

theorem Good.more {F : Fs} {all : List KB} {lo : Nat} (h : Good st F all lo) (r : KB) : Good st F (all ++ [r]) lo := by
  obtain ⟨f, q, hv, a, m, z, h1, h2, h3, h4, h5, h6, h7, h8⟩ := h
  refine ⟨f, q, hv, a, m, z, h1, h2, by simp; omega, h4, by simp; omega, ?_, ?_, h8⟩
  · rw [seg_snoc h5]; exact h6
  · rw [seg_snoc h5]; exact h7

/-- The log is whole, with nothing behind it. -/
theorem good_clean {F : Fs} {all : List KB} {f q : Nat} {hv : Bool} {a : Nat} (h : Sts st F f q hv) (ha : a ≤ q) (hq : q ≤ all.length) (h0 : F 0 = logB (a + 1) (seg all a all.length)) : Good st F all all.length := by
  refine ⟨f, q, hv, a, all.length, [], h, ha, hq, by omega, Nat.le_refl _, by rw [h0, List.append_nil], fun nx => ?_, .inr (Nat.le_refl _)⟩
  have := no_stand_nil (logB (a + 1) (seg all a all.length)) nx
  exact this

/-- The log is whole, and one more entry stands behind it in part. -/
theorem good_torn {F G : Fs} {all : List KB} {f q : Nat} {hv : Bool} {a t : Nat} {r : KB} (hb : r.2.length ≤ 65536) (h : Sts st F f q hv) (ha : a ≤ q) (hq : q ≤ all.length) (h0 : F 0 = logB (a + 1) (seg all a all.length))
    (h1 : G 1 = F 1) (h2 : G 2 = F 2) (hG : G 0 = F 0 ++ (entB (all.length + 1) r.1 r.2).take t) : Good st G (all ++ [r]) all.length := by
  by_cases ht : t < 17 + r.2.length
  · refine ⟨f, q, hv, a, all.length, (entB (all.length + 1) r.1 r.2).take t, h.congr h1 h2, ha, by simp; omega, by omega, by simp, ?_, ?_, .inr (Nat.le_refl _)⟩
    · rw [seg_snoc (Nat.le_refl _), hG, h0]
    · intro nx
      rw [seg_snoc (Nat.le_refl _)]
      exact no_stand _ _ _ _ _ nx ht hb
  · have hal : a ≤ all.length := by omega
    have hfull : (entB (all.length + 1) r.1 r.2).take t = entB (all.length + 1) r.1 r.2 := List.take_of_length_le (by rw [entB_len]; omega)
    have hlog : G 0 = logB (a + 1) (seg (all ++ [r]) a (all ++ [r]).length) := by
      rw [List.length_append, List.length_singleton, seg_next hal, logB_snoc, hG, hfull, h0, seg_len (Nat.le_refl _)]
      rw [show a + 1 + (all.length - a) = all.length + 1 by omega]
    have := good_clean (all := all ++ [r]) (h.congr h1 h2) ha (by simp; omega) hlog
    exact this.less (by simp)

theorem kept_in {ops : List Ch} {c : Ch} {k t : Nat} (h : k < ops.length) : kept (ops ++ [c]) k t = kept ops k t := by
  unfold kept
  have h1 : (ops ++ [c]).drop k = ops.drop k ++ [c] := List.drop_append_of_le_length (by omega)
  rw [h1]
  cases e : ops.drop k with
  | nil =>
    have := congrArg List.length e
    rw [List.length_drop, List.length_nil] at this
    omega
  | cons x r =>
    simp only [List.cons_append]
    rw [List.take_append_of_le_length (by omega)]
theorem kept_at {ops : List Ch} {c : Ch} {k t : Nat} (h : k = ops.length) : kept (ops ++ [c]) k t = ops ++ (if c.app then [{ c with data := c.data.take t }] else []) := by
  subst h
  unfold kept
  have h1 : (ops ++ [c]).drop ops.length = [c] := by rw [List.drop_append_of_le_length (Nat.le_refl _)]; simp
  rw [h1]
  simp
theorem kept_out {ops : List Ch} {k t : Nat} (h : ops.length ≤ k) : kept ops k t = ops := by
  unfold kept
  rw [List.drop_eq_nil_of_le h]

/-- All that a crash can leave is good. -/
def Outs (st : Nat → List UInt8) (d : Dsk) (all : List KB) (lo : Nat) : Prop := ∀ k t, Good st (runs (kept d.ops k t) d.dur) all lo

theorem Outs.cur {d : Dsk} {all : List KB} {lo : Nat} (h : Outs st d all lo) (hi : d.Inv) : Good st d.cur all lo := by
  have := h d.ops.length 0
  rw [kept_out (Nat.le_refl _)] at this
  exact this.congr hi.now

theorem Outs.note {d : Dsk} {all : List KB} {lo : Nat} {c : Ch} (h : Outs st d all lo) (hi : d.Inv) (h1 : ∀ t, Good st (if c.app then apply { c with data := c.data.take t } d.cur else d.cur) all lo) (h2 : Good st (apply c d.cur) all lo) : Outs st (d.note c) all lo := by
  intro k t
  show Good st (runs (kept (d.ops ++ [c]) k t) d.dur) all lo
  have happ : ∀ (x : Ch) i, i < 3 → apply x (runs d.ops d.dur) i = apply x d.cur i := fun x i hi3 => by
    unfold apply
    rw [hi.now i hi3]
  rcases Nat.lt_trichotomy k d.ops.length with hk | hk | hk
  · rw [kept_in hk]; exact h k t
  · rw [kept_at hk, runs_append]
    refine (h1 t).congr (fun i hi3 => ?_)
    split
    · exact happ _ i hi3
    · exact (hi.now i hi3).symm
  · rw [kept_out (by rw [List.length_append]; simp; omega), runs_append]
    exact h2.congr (fun i hi3 => happ _ i hi3)

theorem Outs.sync {d : Dsk} {all : List KB} {lo : Nat} (h : Good st d.cur all lo) : Outs st d.sync all lo := by
  intro k t
  show Good st (runs (kept [] k t) d.cur) all lo
  rw [kept_out (by simp)]
  exact h

theorem Outs.went {d : Dsk} {all : List KB} {lo : Nat} (h : Outs st d all lo) : Outs st d.went all lo := by
  unfold Outs
  rw [Dsk.went_ops, show d.went.dur = d.dur by unfold Dsk.went; split <;> rfl]
  exact h

theorem Outs.less {d : Dsk} {all : List KB} {lo lo' : Nat} (h : Outs st d all lo) (hl : lo' ≤ lo) : Outs st d all lo' := fun k t => (h k t).less hl
theorem Outs.more {d : Dsk} {all : List KB} {lo : Nat} (h : Outs st d all lo) (r : KB) : Outs st d (all ++ [r]) lo := fun k t => (h k t).more r
end
end Go.Proofs.Ytcbgnodmamcmkaa
