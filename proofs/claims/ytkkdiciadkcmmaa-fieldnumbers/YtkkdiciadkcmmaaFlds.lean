/- Plain fields: which are right, their bytes, and how bytes are taken as fields: one form, nothing behind, nothing cut. No condition. -/
import Derived.Test.YtkkdiciadkcmmaaPlain
namespace Go.Proofs.Ytkkdiciadkcmmaa

/-- A field's values. -/
structure Fd where
  tag : UInt8
  kind : UInt8
  n : Int
  text : ByteArray
  ns : List Int
  texts : List ByteArray

/-- A number of 64 bits as bytes, and back. -/
def u64 (n : Int) : Nat := (n % 18446744073709551616).toNat
def i64 (v : Nat) : Int := if v < 9223372036854775808 then (v : Int) else (v : Int) - 18446744073709551616
def In64 (n : Int) : Prop := -9223372036854775808 ≤ n ∧ n < 9223372036854775808

theorem u64_lt (n : Int) : u64 n < 18446744073709551616 := by unfold u64; omega
theorem i64_in (v : Nat) (h : v < 18446744073709551616) : In64 (i64 v) := by unfold In64 i64; split <;> omega
theorem i64_u64 (n : Int) (h : In64 n) : i64 (u64 n) = n := by
  unfold In64 at h; unfold i64 u64; split <;> omega
theorem u64_i64 (v : Nat) (h : v < 18446744073709551616) : u64 (i64 v) = v := by
  unfold u64 i64; split <;> omega

def encT (s : ByteArray) : List UInt8 := be 2 s.size ++ s.data.toList
def encN (n : Int) : List UInt8 := be 8 (u64 n)

/-- What stands behind tag and kind. -/
def bodyF (f : Fd) : List UInt8 :=
  if f.kind = 1 then encN f.n
  else if f.kind = 2 then encT f.text
  else if f.kind = 3 then be 2 f.ns.length ++ f.ns.flatMap encN
  else if f.kind = 4 then be 2 f.texts.length ++ f.texts.flatMap encT
  else []

def bytesF (f : Fd) : List UInt8 := f.tag :: f.kind :: bodyF f
def bytesOf (fs : List Fd) : List UInt8 := UInt8.ofNat fs.length :: fs.flatMap bytesF

/-- A right field. -/
def Good (f : Fd) : Prop :=
  (f.kind = 1 ∧ f.n ≠ 0 ∧ f.text = ByteArray.empty ∧ f.ns = [] ∧ f.texts = []) ∨
  (f.kind = 2 ∧ f.n = 0 ∧ f.text ≠ ByteArray.empty ∧ f.text.size ≤ 65535 ∧ f.ns = [] ∧ f.texts = []) ∨
  (f.kind = 3 ∧ f.n = 0 ∧ f.text = ByteArray.empty ∧ f.ns ≠ [] ∧ f.ns.length ≤ 256 ∧ f.texts = []) ∨
  (f.kind = 4 ∧ f.n = 0 ∧ f.text = ByteArray.empty ∧ f.ns = [] ∧ f.texts ≠ [] ∧ f.texts.length ≤ 256 ∧ ∀ s ∈ f.texts, s.size ≤ 65535)

/-- Right fields. -/
def Right (fs : List Fd) : Prop := fs.length ≤ 64 ∧ ∀ i (h : i < fs.length), Good fs[i] ∧ (0 < i → (fs[i - 1]'(by omega)).tag < fs[i].tag)

/-- The numbers are of 64 bits. -/
def Fits (f : Fd) : Prop := In64 f.n ∧ ∀ n ∈ f.ns, In64 n

def Reads (l : List UInt8) (fs : List Fd) : Prop := Right fs ∧ bytesOf fs = l ∧ l.length ≤ 65000

/-- The bytes m stand in l from p on. -/
def Has (l : List UInt8) (p : Nat) (m : List UInt8) : Prop := ∃ pre rest, l = pre ++ (m ++ rest) ∧ pre.length = p

theorem Has.le {l m : List UInt8} {p : Nat} (h : Has l p m) : p + m.length ≤ l.length := by
  obtain ⟨pre, rest, rfl, rfl⟩ := h; simp

theorem Has.window {l m : List UInt8} {p : Nat} (h : Has l p m) : (l.drop p).take m.length = m := by
  obtain ⟨pre, rest, rfl, rfl⟩ := h; simp

theorem Has.of_window {l : List UInt8} {p n : Nat} (h : p + n ≤ l.length) : Has l p ((l.drop p).take n) :=
  ⟨l.take p, (l.drop p).drop n, by rw [List.take_append_drop, List.take_append_drop], by rw [List.length_take]; omega⟩

theorem Has.split {l a b : List UInt8} {p : Nat} : Has l p (a ++ b) ↔ Has l p a ∧ Has l (p + a.length) b := by
  constructor
  · rintro ⟨pre, rest, rfl, rfl⟩
    exact ⟨⟨pre, b ++ rest, by simp, rfl⟩, ⟨pre ++ a, rest, by simp, by simp⟩⟩
  · rintro ⟨ha, hb⟩
    have e : l.drop p = a ++ (l.drop p).drop a.length := by
      conv => lhs; rw [← List.take_append_drop a.length (l.drop p)]
      rw [ha.window]
    have hle := hb.le
    have e2 : (l.drop p).drop a.length = b ++ l.drop (p + a.length + b.length) := by
      rw [List.drop_drop]
      conv => lhs; rw [← List.take_append_drop b.length (l.drop (p + a.length))]
      rw [hb.window, List.drop_drop]
    refine ⟨l.take p, l.drop (p + a.length + b.length), ?_, by rw [List.length_take]; omega⟩
    conv => lhs; rw [← List.take_append_drop p l, e, e2]
    simp

theorem Has.nil (l : List UInt8) (p : Nat) (h : p ≤ l.length) : Has l p [] := by
  have := Has.of_window (l := l) (p := p) (n := 0) (by omega); simpa using this

abbrev St := Nat × Bool

def tkN (l : List UInt8) (n : Nat) (s : St) : Nat × St := if s.1 + n ≤ l.length then (numOf ((l.drop s.1).take n), (s.1 + n, s.2)) else (0, (l.length, true))
def tkT (l : List UInt8) (s : St) : ByteArray × St :=
  if s.1 + 2 ≤ l.length ∧ s.1 + 2 + numOf ((l.drop s.1).take 2) ≤ l.length then (⟨((l.drop (s.1 + 2)).take (numOf ((l.drop s.1).take 2))).toArray⟩, (s.1 + 2 + numOf ((l.drop s.1).take 2), s.2)) else (ByteArray.empty, (l.length, true))
def tkI (l : List UInt8) (s : St) : Int × St := (i64 (tkN l 8 s).1, (tkN l 8 s).2)

def many {α : Type} (one : St → α × St) : Nat → St → List α × St
  | 0, s => ([], s)
  | k + 1, s => if (many one k s).2.2 then many one k s else ((many one k s).1 ++ [(one (many one k s).2).1], (one (many one k s).2).2)

def tkOne (l : List UInt8) (s : St) : Fd × St :=
  let a := tkN l 1 s
  let b := tkN l 1 a.2
  if b.1 = 1 then (⟨UInt8.ofNat a.1, UInt8.ofNat b.1, (tkI l b.2).1, ByteArray.empty, [], []⟩, (tkI l b.2).2)
  else if b.1 = 2 then (⟨UInt8.ofNat a.1, UInt8.ofNat b.1, 0, (tkT l b.2).1, [], []⟩, (tkT l b.2).2)
  else if b.1 = 3 then (⟨UInt8.ofNat a.1, UInt8.ofNat b.1, 0, ByteArray.empty, (many (tkI l) (tkN l 2 b.2).1 (tkN l 2 b.2).2).1, []⟩, (many (tkI l) (tkN l 2 b.2).1 (tkN l 2 b.2).2).2)
  else if b.1 = 4 then (⟨UInt8.ofNat a.1, UInt8.ofNat b.1, 0, ByteArray.empty, [], (many (tkT l) (tkN l 2 b.2).1 (tkN l 2 b.2).2).1⟩, (many (tkT l) (tkN l 2 b.2).1 (tkN l 2 b.2).2).2)
  else (⟨UInt8.ofNat a.1, UInt8.ofNat b.1, 0, ByteArray.empty, [], []⟩, b.2)

def tkAll (l : List UInt8) : List Fd × St := many (tkOne l) (tkN l 1 (0, false)).1 (tkN l 1 (0, false)).2

theorem tkN_lt (l : List UInt8) (n : Nat) (s : St) : (tkN l n s).1 < 256 ^ n := by
  unfold tkN
  split
  · rename_i h
    have := numOf_lt ((l.drop s.1).take n)
    rwa [List.length_take, List.length_drop, Nat.min_eq_left (by omega)] at this
  · exact Nat.pow_pos (by omega)

/-- The place stays within, what is wrong stays wrong. -/
def Sane {α : Type} (l : List UInt8) (one : St → α × St) : Prop := ∀ s : St, s.1 ≤ l.length → (one s).2.1 ≤ l.length ∧ ((one s).2.2 = false → s.2 = false)

theorem tkN_sane (l : List UInt8) (n : Nat) : Sane l (tkN l n) := by
  intro s _
  unfold tkN
  split
  · exact ⟨by assumption, fun h => h⟩
  · exact ⟨Nat.le_refl _, fun h => by cases h⟩

theorem tkT_sane (l : List UInt8) : Sane l (tkT l) := by
  intro s _
  unfold tkT
  split
  · rename_i h; exact ⟨h.2, fun h => h⟩
  · exact ⟨Nat.le_refl _, fun h => by cases h⟩

theorem tkI_sane (l : List UInt8) : Sane l (tkI l) := fun s h => tkN_sane l 8 s h

theorem many_sane {α : Type} {l : List UInt8} {one : St → α × St} (h : Sane l one) (k : Nat) : Sane l (many one k) := by
  intro s hs
  induction k with
  | zero => exact ⟨hs, fun h => h⟩
  | succ k ih =>
    unfold many
    split
    · exact ih
    · have := h (many one k s).2 ih.1
      exact ⟨this.1, fun e => ih.2 (this.2 e)⟩

theorem tkOne_sane (l : List UInt8) : Sane l (tkOne l) := by
  intro s hs
  have ha := tkN_sane l 1 s hs
  have hb := tkN_sane l 1 (tkN l 1 s).2 ha.1
  have hc := tkN_sane l 2 (tkN l 1 (tkN l 1 s).2).2 hb.1
  unfold tkOne
  simp only
  repeat' split
  · have := tkI_sane l _ hb.1; exact ⟨this.1, fun e => ha.2 (hb.2 (this.2 e))⟩
  · have := tkT_sane l _ hb.1; exact ⟨this.1, fun e => ha.2 (hb.2 (this.2 e))⟩
  · have := many_sane (tkI_sane l) (tkN l 2 (tkN l 1 (tkN l 1 s).2).2).1 _ hc.1; exact ⟨this.1, fun e => ha.2 (hb.2 (hc.2 (this.2 e)))⟩
  · have := many_sane (tkT_sane l) (tkN l 2 (tkN l 1 (tkN l 1 s).2).2).1 _ hc.1; exact ⟨this.1, fun e => ha.2 (hb.2 (hc.2 (this.2 e)))⟩
  · exact ⟨hb.1, fun e => ha.2 (hb.2 e)⟩

theorem many_stop {α : Type} {one : St → α × St} {k : Nat} {s : St} (h : (many one k s).2.2 = true) (j : Nat) : many one (k + j) s = many one k s := by
  induction j with
  | zero => rfl
  | succ j ih =>
    show (if (many one (k + j) s).2.2 then many one (k + j) s else _) = _
    rw [ih, if_pos h]

theorem many_go {α : Type} {one : St → α × St} {k : Nat} {s : St} (h : (many one k s).2.2 = false) : many one (k + 1) s = ((many one k s).1 ++ [(one (many one k s).2).1], (one (many one k s).2).2) := by
  show (if _ then _ else _) = _
  rw [if_neg (by rw [h]; simp)]

theorem many_len {α : Type} (one : St → α × St) (k : Nat) (s : St) : (many one k s).1.length ≤ k := by
  induction k with
  | zero => simp [many]
  | succ k ih =>
    unfold many
    split
    · omega
    · simp; omega

/-- Nothing was wrong: all were taken, and nothing was wrong on the way. -/
theorem many_ok {α : Type} {one : St → α × St} {k : Nat} {s : St} (h : (many one k s).2.2 = false) : (many one k s).1.length = k ∧ ∀ j, j ≤ k → (many one j s).2.2 = false := by
  induction k with
  | zero => exact ⟨rfl, fun j hj => by obtain rfl : j = 0 := by omega
                                       exact h⟩
  | succ k ih =>
    cases hk : (many one k s).2.2 with
    | true => rw [many_stop hk 1, hk] at h; cases h
    | false =>
      obtain ⟨h1, h2⟩ := ih hk
      refine ⟨by rw [many_go hk]; simp [h1], fun j hj => ?_⟩
      rcases Nat.lt_or_ge j (k + 1) with hlt | hge
      · exact h2 j (by omega)
      · obtain rfl : j = k + 1 := by omega
        exact h

/-- What is taken stood there. -/
theorem many_sound {α : Type} {l : List UInt8} {one : St → α × St} {enc : α → List UInt8} (P : α → Prop) (hs : Sane l one) (hone : ∀ s : St, s.1 ≤ l.length → (one s).2.2 = false → P (one s).1 → Has l s.1 (enc (one s).1) ∧ (one s).2.1 = s.1 + (enc (one s).1).length)
    {k : Nat} {s : St} (h0 : s.1 ≤ l.length) (h : (many one k s).2.2 = false) (hp : ∀ x ∈ (many one k s).1, P x) :
    Has l s.1 ((many one k s).1.flatMap enc) ∧ (many one k s).2.1 = s.1 + ((many one k s).1.flatMap enc).length := by
  induction k with
  | zero => exact ⟨Has.nil l _ h0, rfl⟩
  | succ k ih =>
    have hk := (many_ok h).2 k (by omega)
    rw [many_go hk] at h hp ⊢
    obtain ⟨h1, h2⟩ := ih hk (fun x hx => hp x (by simp [hx]))
    have hin := (many_sane hs k s h0).1
    obtain ⟨h3, h4⟩ := hone _ hin h (hp _ (by simp))
    simp only [List.flatMap_append, List.flatMap_cons, List.flatMap_nil, List.append_nil]
    refine ⟨Has.split.2 ⟨h1, by rw [← h2]; exact h3⟩, ?_⟩
    rw [h4, h2, List.length_append]; omega

/-- What stands there is taken. -/
theorem many_full {α : Type} {l : List UInt8} {one : St → α × St} {enc : α → List UInt8} (xs : List α) (p : Nat) (hone : ∀ x ∈ xs, ∀ q, Has l q (enc x) → one (q, false) = (x, (q + (enc x).length, false)))
    (h : Has l p (xs.flatMap enc)) (k : Nat) (hk : k ≤ xs.length) : many one k (p, false) = (xs.take k, (p + ((xs.take k).flatMap enc).length, false)) := by
  induction k with
  | zero => simp [many]
  | succ k ih =>
    have e := ih (by omega)
    have hs : xs = xs.take k ++ (xs[k] :: xs.drop (k + 1)) := by rw [← List.drop_eq_getElem_cons (by omega), List.take_append_drop]
    have hh : Has l (p + ((xs.take k).flatMap enc).length) (enc xs[k]) := by
      rw [hs, List.flatMap_append, List.flatMap_cons] at h
      exact (Has.split.1 (Has.split.1 h).2).1
    have h1 := hone xs[k] (List.getElem_mem _) _ hh
    rw [many_go (by rw [e]), e, h1, List.take_succ_eq_append_getElem (by omega)]
    simp only [List.flatMap_append, List.flatMap_cons, List.flatMap_nil, List.append_nil, List.length_append]
    rw [Nat.add_assoc]

theorem tkN_full {l : List UInt8} {p n v : Nat} (b : Bool) (h : Has l p (be n v)) (hv : v < 256 ^ n) : tkN l n (p, b) = (v, (p + n, b)) := by
  have hw := h.window
  have hle := h.le
  rw [be_length] at hw hle
  unfold tkN
  rw [if_pos hle]
  simp only
  rw [hw, numOf_be, Nat.mod_eq_of_lt hv]

theorem tkN_sound {l : List UInt8} {n : Nat} {s : St} (h : (tkN l n s).2.2 = false) : Has l s.1 (be n (tkN l n s).1) ∧ (tkN l n s).2.1 = s.1 + n := by
  unfold tkN at h ⊢
  split at h
  · rename_i hle
    rw [if_pos hle]
    refine ⟨?_, rfl⟩
    have e : ((l.drop s.1).take n).length = n := by rw [List.length_take, List.length_drop]; omega
    have := be_numOf ((l.drop s.1).take n)
    rw [e] at this
    simp only
    rw [this]
    exact Has.of_window hle
  · cases h

theorem encT_len (s : ByteArray) : (encT s).length = 2 + s.size := by unfold encT; simp [be_length]
theorem encN_len (n : Int) : (encN n).length = 8 := be_length _ _

theorem tkT_full {l : List UInt8} {p : Nat} {t : ByteArray} (b : Bool) (h : Has l p (encT t)) (ht : t.size ≤ 65535) : tkT l (p, b) = (t, (p + (encT t).length, b)) := by
  have hle := h.le
  have hl := encT_len t
  unfold encT at h
  obtain ⟨h1, h2⟩ := Has.split.1 h
  rw [be_length] at h2
  have w1 := h1.window
  have w2 := h2.window
  have hz : t.data.toList.length = t.size := by simp
  rw [be_length] at w1
  rw [hz] at w2
  have e : numOf ((l.drop p).take 2) = t.size := by rw [w1, numOf_be, Nat.mod_eq_of_lt (by omega)]
  unfold tkT
  simp only
  rw [e, if_pos (by omega), w2, hl]
  simp
  omega

theorem tkT_sound {l : List UInt8} {s : St} (h : (tkT l s).2.2 = false) : Has l s.1 (encT (tkT l s).1) ∧ (tkT l s).2.1 = s.1 + (encT (tkT l s).1).length := by
  unfold tkT at h ⊢
  split at h
  · rename_i hle
    rw [if_pos hle]
    have e : ((l.drop s.1).take 2).length = 2 := by rw [List.length_take, List.length_drop]; omega
    have hb := be_numOf ((l.drop s.1).take 2)
    rw [e] at hb
    have hw1 : Has l s.1 ((l.drop s.1).take 2) := Has.of_window hle.1
    generalize numOf ((l.drop s.1).take 2) = v at *
    have hsz : (ByteArray.mk ((l.drop (s.1 + 2)).take v).toArray).size = v := by
      show ((l.drop (s.1 + 2)).take v).toArray.size = v
      simp; omega
    rw [← hb] at hw1
    simp only
    rw [encT_len, hsz]
    refine ⟨?_, by omega⟩
    unfold encT
    rw [hsz]
    refine Has.split.2 ⟨hw1, ?_⟩
    rw [be_length]
    exact Has.of_window hle.2
  · cases h

theorem tkI_full {l : List UInt8} {p : Nat} {n : Int} (b : Bool) (h : Has l p (encN n)) (hn : In64 n) : tkI l (p, b) = (n, (p + (encN n).length, b)) := by
  unfold tkI
  rw [tkN_full b h (Nat.lt_of_lt_of_le (u64_lt n) (by decide)), encN_len, i64_u64 n hn]

theorem tkI_sound {l : List UInt8} {s : St} (h : (tkI l s).2.2 = false) : Has l s.1 (encN (tkI l s).1) ∧ (tkI l s).2.1 = s.1 + (encN (tkI l s).1).length := by
  obtain ⟨h1, h2⟩ := tkN_sound (l := l) (n := 8) (s := s) h
  have hlt := tkN_lt l 8 s
  unfold encN tkI
  simp only
  rw [u64_i64 _ (Nat.lt_of_lt_of_le hlt (by decide)), be_length]
  exact ⟨h1, h2⟩

theorem has_bytes {l : List UInt8} {p : Nat} {f : Fd} (h : Has l p (bytesF f)) : Has l p (be 1 f.tag.toNat) ∧ Has l (p + 1) (be 1 f.kind.toNat) ∧ Has l (p + 1 + 1) (bodyF f) := by
  have e : bytesF f = be 1 f.tag.toNat ++ (be 1 f.kind.toNat ++ bodyF f) := by simp [bytesF, be]
  rw [e] at h
  obtain ⟨h1, h2⟩ := Has.split.1 h
  obtain ⟨h3, h4⟩ := Has.split.1 h2
  simp only [be_length] at h3 h4
  exact ⟨h1, h3, h4⟩

theorem tkOne_full {l : List UInt8} {p : Nat} {f : Fd} (h : Has l p (bytesF f)) (hf : Fits f) (hg : Good f) : tkOne l (p, false) = (f, (p + (bytesF f).length, false)) := by
  obtain ⟨h1, h2, h3⟩ := has_bytes h
  have t1 := tkN_full false h1 (by have := f.tag.toNat_lt; omega)
  have t2 := tkN_full false h2 (by have := f.kind.toNat_lt; omega)
  have hl : (bytesF f).length = 2 + (bodyF f).length := by simp [bytesF]; omega
  unfold tkOne
  simp only
  rw [t1]
  simp only
  rw [t2]
  simp only
  obtain ⟨tag, kind, n, text, ns, texts⟩ := f
  rcases hg with ⟨rfl, _, e2, e3, e4⟩ | ⟨rfl, e1, _, e2, e3, e4⟩ | ⟨rfl, e1, e2, e3, e4, e5⟩ | ⟨rfl, e1, e2, e3, e4, e5, e6⟩ <;> simp only at *
  · subst e2; subst e3; subst e4
    have := tkI_full false h3 hf.1
    rw [hl]
    simp only [bodyF] at this h3 ⊢
    simp [this]; omega
  · subst e1; subst e3; subst e4
    have hb : bodyF ⟨tag, 2, 0, text, [], []⟩ = encT text := by simp [bodyF]
    rw [hb] at h3
    have := tkT_full false h3 e2
    rw [hl, hb]
    simp [this]; omega
  · subst e1; subst e2; subst e5
    have hb : bodyF ⟨tag, 3, 0, ByteArray.empty, ns, []⟩ = be 2 ns.length ++ ns.flatMap encN := by simp [bodyF]
    rw [hb] at h3
    obtain ⟨h4, h5⟩ := Has.split.1 h3
    rw [be_length] at h5
    have t3 := tkN_full false h4 (by omega)
    have t4 := many_full (one := tkI l) ns _ (fun x hx q hq => tkI_full false hq (hf.2 x hx)) h5 ns.length (Nat.le_refl _)
    rw [hl, hb]
    simp [t3, t4, be_length]; omega
  · subst e1; subst e2; subst e3
    have hb : bodyF ⟨tag, 4, 0, ByteArray.empty, [], texts⟩ = be 2 texts.length ++ texts.flatMap encT := by simp [bodyF]
    rw [hb] at h3
    obtain ⟨h4, h5⟩ := Has.split.1 h3
    rw [be_length] at h5
    have t3 := tkN_full false h4 (by omega)
    have t4 := many_full (one := tkT l) texts _ (fun x hx q hq => tkT_full false hq (e6 x hx)) h5 texts.length (Nat.le_refl _)
    rw [hl, hb]
    simp [t3, t4, be_length]; omega

theorem Good.kinds {f : Fd} (h : Good f) : f.kind = 1 ∨ f.kind = 2 ∨ f.kind = 3 ∨ f.kind = 4 := by
  rcases h with h | h | h | h
  · exact .inl h.1
  · exact .inr (.inl h.1)
  · exact .inr (.inr (.inl h.1))
  · exact .inr (.inr (.inr h.1))

theorem of_nat_toNat (a : Nat) (h : a < 256) : (UInt8.ofNat a).toNat = a := by simp; omega

theorem tkOne_kind (l : List UInt8) (s : St) : (tkOne l s).1.kind = UInt8.ofNat (tkN l 1 (tkN l 1 s).2).1 ∧ (tkOne l s).1.tag = UInt8.ofNat (tkN l 1 s).1 := by
  unfold tkOne
  simp only
  repeat' split
  all_goals exact ⟨rfl, rfl⟩

theorem ofNat_eq (a : Nat) (h : a < 256) (k : Nat) (hk : k < 256) : UInt8.ofNat a = UInt8.ofNat k ↔ a = k := by
  constructor
  · intro e
    have := congrArg UInt8.toNat e
    rwa [of_nat_toNat a h, of_nat_toNat k hk] at this
  · rintro rfl; rfl

theorem tkOne_sound {l : List UInt8} {s : St} (hs : s.1 ≤ l.length) (h : (tkOne l s).2.2 = false) (hk : (tkOne l s).1.kind = 1 ∨ (tkOne l s).1.kind = 2 ∨ (tkOne l s).1.kind = 3 ∨ (tkOne l s).1.kind = 4) :
    Has l s.1 (bytesF (tkOne l s).1) ∧ (tkOne l s).2.1 = s.1 + (bytesF (tkOne l s).1).length := by
  obtain ⟨kk, kt⟩ := tkOne_kind l s
  have ha := tkN_sane l 1 s hs
  have hb := tkN_sane l 1 (tkN l 1 s).2 ha.1
  have hc := tkN_sane l 2 (tkN l 1 (tkN l 1 s).2).2 hb.1
  have la := tkN_lt l 1 s
  have lb := tkN_lt l 1 (tkN l 1 s).2
  have lc := tkN_lt l 2 (tkN l 1 (tkN l 1 s).2).2
  -- the body, from behind the kind
  have key : (tkN l 1 (tkN l 1 s).2).2.2 = false ∧ Has l (tkN l 1 (tkN l 1 s).2).2.1 (bodyF (tkOne l s).1) ∧ (tkOne l s).2.1 = (tkN l 1 (tkN l 1 s).2).2.1 + (bodyF (tkOne l s).1).length := by
    rw [kk] at hk
    unfold tkOne at h ⊢
    simp only at h ⊢
    generalize hB : tkN l 1 (tkN l 1 s).2 = B at *
    generalize hA : tkN l 1 s = A at *
    by_cases k1 : B.1 = 1
    · simp only [k1, if_true] at h ⊢
      have := tkI_sound h
      exact ⟨(tkI_sane l _ hb.1).2 h, by simpa [bodyF, k1] using this⟩
    · by_cases k2 : B.1 = 2
      · simp only [k2] at h ⊢
        have := tkT_sound h
        exact ⟨(tkT_sane l _ hb.1).2 h, by simpa [bodyF, k2] using this⟩
      · by_cases k3 : B.1 = 3
        · simp only [k3] at h ⊢
          have h' : (many (tkI l) (tkN l 2 B.2).1 (tkN l 2 B.2).2).2.2 = false := h
          have hm := many_sound (enc := encN) (fun _ => True) (tkI_sane l) (fun s _ hh _ => tkI_sound hh) hc.1 h' (fun _ _ => trivial)
          have hw := (many_sane (tkI_sane l) (tkN l 2 B.2).1 _ hc.1).2 h'
          have hn := tkN_sound hw
          have hlen := (many_ok h').1
          refine ⟨hc.2 hw, ?_⟩
          show Has l B.2.1 (bodyF ⟨_, UInt8.ofNat 3, 0, ByteArray.empty, (many (tkI l) (tkN l 2 B.2).1 (tkN l 2 B.2).2).1, []⟩) ∧ (many (tkI l) (tkN l 2 B.2).1 (tkN l 2 B.2).2).2.1 = B.2.1 + (bodyF ⟨_, UInt8.ofNat 3, 0, ByteArray.empty, (many (tkI l) (tkN l 2 B.2).1 (tkN l 2 B.2).2).1, []⟩).length
          simp only [bodyF]
          rw [if_neg (by decide), if_neg (by decide), if_pos (by decide)]
          rw [hlen]
          refine ⟨Has.split.2 ⟨hn.1, by rw [be_length, ← hn.2]; exact hm.1⟩, ?_⟩
          rw [hm.2, hn.2, List.length_append, be_length]; omega
        · by_cases k4 : B.1 = 4
          · simp only [k4] at h ⊢
            have h' : (many (tkT l) (tkN l 2 B.2).1 (tkN l 2 B.2).2).2.2 = false := h
            have hm := many_sound (enc := encT) (fun _ => True) (tkT_sane l) (fun s _ hh _ => tkT_sound hh) hc.1 h' (fun _ _ => trivial)
            have hw := (many_sane (tkT_sane l) (tkN l 2 B.2).1 _ hc.1).2 h'
            have hn := tkN_sound hw
            have hlen := (many_ok h').1
            refine ⟨hc.2 hw, ?_⟩
            show Has l B.2.1 (bodyF ⟨_, UInt8.ofNat 4, 0, ByteArray.empty, [], (many (tkT l) (tkN l 2 B.2).1 (tkN l 2 B.2).2).1⟩) ∧ (many (tkT l) (tkN l 2 B.2).1 (tkN l 2 B.2).2).2.1 = B.2.1 + (bodyF ⟨_, UInt8.ofNat 4, 0, ByteArray.empty, [], (many (tkT l) (tkN l 2 B.2).1 (tkN l 2 B.2).2).1⟩).length
            simp only [bodyF]
            rw [if_neg (by decide), if_neg (by decide), if_neg (by decide), if_pos (by decide)]
            rw [hlen]
            refine ⟨Has.split.2 ⟨hn.1, by rw [be_length, ← hn.2]; exact hm.1⟩, ?_⟩
            rw [hm.2, hn.2, List.length_append, be_length]; omega
          · exfalso
            rcases hk with hk | hk | hk | hk
            · exact k1 ((ofNat_eq B.1 lb 1 (by omega)).1 hk)
            · exact k2 ((ofNat_eq B.1 lb 2 (by omega)).1 hk)
            · exact k3 ((ofNat_eq B.1 lb 3 (by omega)).1 hk)
            · exact k4 ((ofNat_eq B.1 lb 4 (by omega)).1 hk)
  obtain ⟨g0, g1, g2⟩ := key
  have nb := tkN_sound g0
  have na := tkN_sound (hb.2 g0)
  have e : bytesF (tkOne l s).1 = be 1 (tkN l 1 s).1 ++ (be 1 (tkN l 1 (tkN l 1 s).2).1 ++ bodyF (tkOne l s).1) := by
    unfold bytesF
    rw [kk, kt]
    simp [be]
  rw [e]
  refine ⟨Has.split.2 ⟨na.1, Has.split.2 ⟨by rw [be_length, ← na.2]; exact nb.1, by rw [be_length, be_length, ← na.2, ← nb.2]; exact g1⟩⟩, ?_⟩
  rw [g2, nb.2, na.2]
  simp only [List.length_append, be_length]
  omega

/-- The bytes of right fields, with anything behind them, are taken as these. -/
theorem tkAll_full {fs : List Fd} (rest : List UInt8) (hr : Right fs) (hf : ∀ f ∈ fs, Fits f) : tkAll (bytesOf fs ++ rest) = (fs, ((bytesOf fs).length, false)) := by
  have hh : Has (bytesOf fs ++ rest) 0 (be 1 fs.length ++ fs.flatMap bytesF) := ⟨[], rest, by simp [bytesOf, be], rfl⟩
  obtain ⟨h1, h2⟩ := Has.split.1 hh
  rw [be_length] at h2
  have hn := hr.1
  have t1 := tkN_full false h1 (by omega)
  have t2 := many_full (one := tkOne (bytesOf fs ++ rest)) fs (0 + 1) (fun x hx q hq => by
    obtain ⟨i, hi, rfl⟩ := List.getElem_of_mem hx
    exact tkOne_full hq (hf _ hx) (hr.2 i hi).1) h2 fs.length (Nat.le_refl _)
  unfold tkAll
  rw [t1]
  simp only
  rw [t2, List.take_length]
  simp [bytesOf]; omega

theorem tkAll_sound {l : List UInt8} (h1 : (tkAll l).2.2 = false) (h2 : (tkAll l).2.1 = l.length) (hr : Right (tkAll l).1) : bytesOf (tkAll l).1 = l := by
  have hs := tkN_sane l 1 (0, false) (Nat.zero_le _)
  have hk : ∀ x ∈ (tkAll l).1, x.kind = 1 ∨ x.kind = 2 ∨ x.kind = 3 ∨ x.kind = 4 := by
    intro x hx
    obtain ⟨i, hi, rfl⟩ := List.getElem_of_mem hx
    exact (hr.2 i hi).1.kinds
  have hok := many_ok h1
  have hsd := many_sound (enc := bytesF) (fun x => x.kind = 1 ∨ x.kind = 2 ∨ x.kind = 3 ∨ x.kind = 4) (tkOne_sane l) (fun s h0 hh hp => tkOne_sound h0 hh hp) hs.1 h1 hk
  have hw := (many_sane (tkOne_sane l) _ _ hs.1).2 h1
  have hn := tkN_sound hw
  have hh : Has l 0 (be 1 (tkAll l).1.length ++ (tkAll l).1.flatMap bytesF) := by
    refine Has.split.2 ⟨?_, ?_⟩
    · rw [show (tkAll l).1.length = (tkN l 1 (0, false)).1 from hok.1]; exact hn.1
    · rw [be_length, ← hn.2]; exact hsd.1
  have hlen : (be 1 (tkAll l).1.length ++ (tkAll l).1.flatMap bytesF).length = l.length := by
    rw [List.length_append, be_length]
    have : (tkAll l).2.1 = (tkN l 1 (0, false)).2.1 + ((tkAll l).1.flatMap bytesF).length := hsd.2
    rw [hn.2] at this
    simp only at this
    omega
  have hwin := hh.window
  rw [hlen] at hwin
  rw [List.drop_zero, List.take_length] at hwin
  refine Eq.trans ?_ hwin.symm
  simp [bytesOf, be]

/-- What All answers. -/
theorem tkAll_reads {l : List UInt8} (hl : l.length ≤ 65000) : ((tkAll l).2.2 = false ∧ (tkAll l).2.1 = l.length ∧ Right (tkAll l).1) → Reads l (tkAll l).1 := fun ⟨h1, h2, h3⟩ => ⟨h3, tkAll_sound h1 h2 h3, hl⟩

theorem reads_tkAll {l : List UInt8} {fs : List Fd} (h : Reads l fs) (hf : ∀ f ∈ fs, Fits f) : tkAll l = (fs, (l.length, false)) := by
  have := tkAll_full [] h.1 hf
  rw [List.append_nil, h.2.1] at this
  exact this

/-- One form: none is the beginning of another. -/
theorem bytes_apart {fs gs : List Fd} {rest : List UInt8} (h1 : Right fs) (f1 : ∀ f ∈ fs, Fits f) (h2 : Right gs) (f2 : ∀ f ∈ gs, Fits f) (e : bytesOf fs = bytesOf gs ++ rest) : fs = gs ∧ rest = [] := by
  have t1 := tkAll_full [] h1 f1
  have t2 := tkAll_full rest h2 f2
  rw [List.append_nil, e, t2] at t1
  simp only [Prod.mk.injEq] at t1
  obtain ⟨rfl, hl, _⟩ := t1
  refine ⟨rfl, ?_⟩
  rw [List.length_append] at hl
  exact List.eq_nil_of_length_eq_zero (by omega)

end Go.Proofs.Ytkkdiciadkcmmaa
