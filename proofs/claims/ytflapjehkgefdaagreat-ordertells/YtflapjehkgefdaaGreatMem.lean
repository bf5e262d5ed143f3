/- Accounts and texts in memory; rows of the call's own. -/
import Derived.Test.YtflapjehkgefdaaGreatPlain
import Derived.Laws.CopyRow
import Derived.BigQuiet
import Derived.Deep.RegionHeld
import Derived.RegionTactic
namespace Go.Proofs.YtflapjehkgefdaaGreat
open Go.RowKit

theorem hid {p : Prop} (h : p) : Hid p := h

def ac (x : Acc) : List Value := [.string x.1, .string x.2.1, .int .i64 x.2.2]
def av (x : Acc) : Value := .agg #[.string x.1, .string x.2.1, .int .i64 x.2.2]

def AAt (w : World) (a : Option Addr) (L : List Acc) : Prop := CAt w a (L.flatMap ac)
def AOwn (w : World) (base : Nat) (v : Value) (L : List Acc) : Prop := w.ownsRow base 80 3 v L.length (L.flatMap ac)

theorem info37 : (Tryz.prog.info? 80).map (fun i => (i.zero, i.size, i.bytes)) = some (some (.agg #[.string ByteArray.empty, .string ByteArray.empty, .int .i64 0]), 3, 40) := by kernel_rfl

theorem ac_len (C : List Acc) : (C.flatMap ac).length = C.length * 3 := by
  induction C with
  | nil => rfl
  | cons q r ih => simp [ac, ih]; omega

theorem ac_get : ∀ (Q : List Acc) (i r : Nat) (hi : i < Q.length) (_ : r < 3), (Q.flatMap ac)[i * 3 + r]? = (ac Q[i])[r]?
  | [], i, r, hi, _ => by simp at hi
  | q :: t, 0, r, hi, hr => by
    simp only [List.flatMap_cons, Nat.zero_mul, Nat.zero_add, List.getElem_cons_zero]
    rw [List.getElem?_append_left (by simp [ac]; omega)]
  | q :: t, i + 1, r, hi, hr => by
    simp only [List.flatMap_cons, List.getElem_cons_succ]
    rw [List.getElem?_append_right (by simp [ac]; omega)]
    have := ac_get t i r (by simpa using hi) hr
    rw [← this]
    congr 1
    simp [ac]; omega

theorem ac_ne {R : List Acc} (h : 0 < R.length) : R.flatMap ac ≠ [] := by
  intro e
  have h1 := ac_len R
  rw [e] at h1
  simp at h1
  omega

theorem ac_one (Z : List Acc) : ∀ u ∈ Z.flatMap ac, u.oneCell' = true := by
  intro u hu
  obtain ⟨x, _, hx⟩ := List.mem_flatMap.1 hu
  simp [ac] at hx
  rcases hx with rfl | rfl | rfl <;> rfl

theorem three_one (x : Acc) : ∀ u ∈ [Value.string x.1, .string x.2.1, .int .i64 x.2.2], u.oneCell' = true := by
  intro u hu
  simp at hu
  rcases hu with rfl | rfl | rfl <;> rfl

theorem ac_snoc (L : List Acc) (x : Acc) : (L ++ [x]).flatMap ac = L.flatMap ac ++ [.string x.1, .string x.2.1, .int .i64 x.2.2] := by simp [ac]

theorem take_more {α : Type} {L : List α} {j : Nat} (h : j < L.length) : L.take (j + 1) = L.take j ++ [L[j]] := by
  rw [List.take_add_one, List.getElem?_eq_getElem h]; rfl

theorem AAt.place {w : World} {a : Option Addr} {C : List Acc} (h : AAt w a C) (h0 : 0 < C.length) : ∃ b o, a = some ⟨b, o, none⟩ := by
  obtain ⟨b, o, e, _⟩ := h (ac_ne h0)
  exact ⟨b, o, e⟩

theorem AAt.one {w : World} {b o : Nat} {C : List Acc} (h : AAt w (some ⟨b, o, none⟩) C) {i : Nat} (hi : i < C.length) :
    w.cell? ⟨b, o + i * 3, none⟩ = some (.string (accAt C i).1) ∧ w.cell? ⟨b, o + i * 3 + 1, none⟩ = some (.string (accAt C i).2.1) ∧ w.cell? ⟨b, o + i * 3 + 2, none⟩ = some (.int .i64 (accAt C i).2.2) := by
  obtain ⟨b', o', e, hc⟩ := h (ac_ne (by omega))
  cases e
  have key : ∀ r (hr : r < 3), w.cell? ⟨b, o + (i * 3 + r), none⟩ = some ((ac C[i])[r]'(by simp [ac]; omega)) := fun r hr => by
    have hlt : i * 3 + r < (C.flatMap ac).length := by rw [ac_len]; omega
    rw [hc _ hlt]
    have := ac_get C i r hi hr
    rw [List.getElem?_eq_getElem hlt, List.getElem?_eq_getElem (by simp [ac]; omega)] at this
    exact this
  have k0 := key 0 (by omega)
  have k1 := key 1 (by omega)
  have k2 := key 2 (by omega)
  rw [accAt_eq hi] at k0 k1 k2
  exact ⟨k0, k1, k2⟩

theorem AAt.below {w w' : World} {a : Option Addr} {C : List Acc} (h : AAt w a C) (hb : Below w.heap.size w w') : AAt w' a C := CAt.below h hb
theorem AAt.kp {S : Nat → Prop} {w w' : World} {a : Option Addr} {C : List Acc} (h : AAt w a C) (hk : Kp S w w') (hn : ∀ x, a = some x → ¬ S x.block) : AAt w' a C := CAt.kp h hk hn
theorem AAt.nil (w : World) (a : Option Addr) : AAt w a [] := CAt.nil w a
theorem AAt.lt {w : World} {b o : Nat} {C : List Acc} (h : AAt w (some ⟨b, o, none⟩) C) (h0 : 0 < C.length) : b < w.heap.size := World.block_lt_of_cell? w _ (h.one h0).1
theorem AAt.take {w : World} {a : Option Addr} {C : List Acc} (h : AAt w a C) (k : Nat) : AAt w a (C.take k) := by
  intro hne
  have hpos : 0 < C.length := by
    rcases Nat.eq_zero_or_pos C.length with h0 | h0
    · exact absurd (by rw [List.eq_nil_of_length_eq_zero h0]; simp) hne
    · exact h0
  obtain ⟨b, o, e, hc⟩ := h (ac_ne hpos)
  refine ⟨b, o, e, fun i hi => ?_⟩
  have hsp : C.flatMap ac = (C.take k).flatMap ac ++ (C.drop k).flatMap ac := by rw [← List.flatMap_append, List.take_append_drop]
  have hi2 : i < (C.flatMap ac).length := by rw [hsp, List.length_append]; omega
  rw [hc i hi2]
  congr 1
  simp only [hsp]
  rw [List.getElem_append_left hi]

theorem AOwn.dat {w : World} {base n c : Nat} {a : Option Addr} {C : List Acc} (h : AOwn w base (.slice a n c) C) : AAt w a C := owns_cat h
theorem AOwn.below {w w' : World} {base : Nat} {v : Value} {C : List Acc} (h : AOwn w base v C) (hb : Below w.heap.size w w') : AOwn w' base v C := owns_below h hb
theorem AOwn.low {w : World} {base base' : Nat} {v : Value} {C : List Acc} (h : AOwn w base v C) (hb : base' ≤ base) : AOwn w base' v C := owns_low h hb
theorem AOwn.nil (w : World) (base : Nat) : AOwn w base (.slice none 0 0) [] := World.ownsRow_nil _ _ _ _

/-- A row that has cells lies at the head of a block of its own, which may be written. -/
theorem owns_spot {w : World} {base e size n : Nat} {v : Value} {xs : List Value} (h : w.ownsRow base e size v n xs) (h0 : 0 < n) : ∃ g c, v = .slice (some ⟨g, 0, none⟩) n c ∧ base ≤ g ∧ g < w.heap.size ∧ n ≤ c ∧ ∀ i, w.frozen? ⟨g, i, none⟩ = false := by
  rcases h.2 with ⟨_, hn⟩ | ⟨g, cap, cur, rfl, hb, hg, hc, _⟩
  · omega
  · exact ⟨g, cap, rfl, hb, (Array.getElem?_eq_some_iff.1 hg).1, hc, fun i => by simp [World.frozen?, hg]⟩

theorem owns_put {w : World} {base e size n g c i : Nat} {xs : List Value} (h : w.ownsRow base e size (.slice (some ⟨g, 0, none⟩) n c) n xs) (hi : i < n * size) (u : Value) :
    (w.setCell ⟨g, i, none⟩ u).ownsRow base e size (.slice (some ⟨g, 0, none⟩) n c) n (xs.set i u) := by
  refine ⟨by rw [List.length_set]; exact h.1, ?_⟩
  rcases h.2 with ⟨hv, hn⟩ | ⟨g', cap, cur, hv, hb, hg, hc, hm, hs, ht⟩
  · subst hn; omega
  · simp only [Value.slice.injEq, Option.some.injEq, Addr.mk.injEq] at hv
    obtain ⟨⟨rfl, _, _⟩, _, rfl⟩ := hv
    refine .inr ⟨g, c, cur.setIfInBounds i u, rfl, hb, ?_, hc, hm, by simpa using hs, ?_⟩
    · rw [setCell_eq_setRow w g i cur e (0, 0) u hg, setRow_heap w g cur _ e _ hg]
    · rw [← ht]
      simp [List.take_set]

theorem ac_set {L : List Acc} {i : Nat} (hi : i < L.length) (x : Acc) : ∀ r v, r < 3 → (ac L[i]).set r v = ac x → (L.flatMap ac).set (i * 3 + r) v = (L.set i x).flatMap ac := by
  intro r v hr he
  induction L generalizing i with
  | nil => simp at hi
  | cons q t ih =>
    cases i with
    | zero =>
      simp only [List.flatMap_cons, Nat.zero_mul, Nat.zero_add, List.set_cons_zero, List.getElem_cons_zero] at he ⊢
      rw [List.set_append_left _ _ (by simp [ac]; omega), he]
    | succ k =>
      simp only [List.flatMap_cons, List.set_cons_succ, List.getElem_cons_succ] at he ⊢
      rw [List.set_append_right _ _ (by simp [ac]; omega)]
      have := ih (by simpa using hi) he
      rw [← this]
      congr 2
      simp [ac]; omega

/-- One part of one node is written. -/
theorem AOwn.set {w : World} {base n g c i : Nat} {L : List Acc} (h : AOwn w base (.slice (some ⟨g, 0, none⟩) n c) L) (hn : L.length = n) (hi : i < n) (x : Acc) (r : Nat) (v : Value) (hr : r < 3) (he : (ac (accAt L i)).set r v = ac x) :
    AOwn (w.setCell ⟨g, i * 3 + r, none⟩ v) base (.slice (some ⟨g, 0, none⟩) n c) (L.set i x) := by
  subst hn
  unfold AOwn at *
  rw [← ac_set hi x r v hr (by rw [accAt_eq hi]; exact he), List.length_set]
  exact owns_put h (by omega) v


theorem text_ne {s t : ByteArray} (h : s ≠ t) : (s.toList == t.toList) = false := by
  rw [beq_eq_false_iff_ne, ByteArray.toList_eq, ByteArray.toList_eq]; exact fun e => h (WideShapes.bytes_inj e)
theorem text_eq {s t : ByteArray} (h : s = t) : (s.toList == t.toList) = true := by subst h; simp

theorem below_drewN {w w' : World} {base : Nat} (h : Below base w w') (n : Nat) : Below base w (w'.drewN n) := h.trans ⟨rfl, rfl, rfl, Nat.le_refl _, fun _ _ => rfl⟩
theorem drew_below (w : World) : Below w.heap.size w w.drew := (Below.refl _ _).drew
theorem stay {w w' : World} {p : Addr} {v : Value} (hb : Below w.heap.size w w') (h : w.cell? p = some v) : w'.cell? p = some v := by
  rw [hb.cell (World.block_lt_of_cell? w p h)]; exact h
theorem cell_new (w : World) (v : Value) (t : Nat) : (w.alloc (.cells #[v] t)).cell? ⟨w.heap.size, 0, none⟩ = some v := by
  obtain ⟨b, o, e, h⟩ := cat_lit w t [v] #[v] rfl (by simp)
  cases e
  exact h 0 (by simp)
abbrev ptr (g : Nat) : Value := .pointer (some ⟨g, 0, none⟩)

/-- A text as a cell. -/
abbrev S (s : ByteArray) : Value := .string s
def txAt (T : List ByteArray) (i : Nat) : ByteArray := T.getD i ByteArray.empty
theorem txAt_eq {T : List ByteArray} {i : Nat} (h : i < T.length) : T[i] = txAt T i := by simp [txAt, h]
theorem info9 : (Tryz.prog.info? 9).map (fun i => (i.zero, i.size, i.bytes)) = some (some (.string ByteArray.empty), 1, 16) := by kernel_rfl
theorem S_one (T : List ByteArray) : ∀ u ∈ T.map S, u.oneCell' = true := by
  intro u hu
  obtain ⟨x, _, rfl⟩ := List.mem_map.1 hu
  rfl
theorem one_S (s : ByteArray) : ∀ u ∈ [Value.string s], u.oneCell' = true := by
  intro u hu
  simp at hu
  subst hu; rfl

def TAt (w : World) (a : Option Addr) (T : List ByteArray) : Prop := CAt w a (T.map S)
def TOwn (w : World) (base : Nat) (v : Value) (T : List ByteArray) : Prop := w.ownsRow base 9 1 v T.length (T.map S)

theorem TAt.below {w w' : World} {a : Option Addr} {C : List ByteArray} (h : TAt w a C) (hb : Below w.heap.size w w') : TAt w' a C := CAt.below h hb
theorem TAt.kp {P : Nat → Prop} {w w' : World} {a : Option Addr} {C : List ByteArray} (h : TAt w a C) (hk : Kp P w w') (hn : ∀ x, a = some x → ¬ P x.block) : TAt w' a C := CAt.kp h hk hn
theorem TAt.nil (w : World) (a : Option Addr) : TAt w a [] := CAt.nil w a
theorem TAt.place {w : World} {a : Option Addr} {T : List ByteArray} (h : TAt w a T) (h0 : 0 < T.length) : ∃ b o, a = some ⟨b, o, none⟩ := by
  obtain ⟨b, o, e, _⟩ := h (by intro e; simp at e; subst e; simp at h0)
  exact ⟨b, o, e⟩
theorem TAt.one {w : World} {b o : Nat} {T : List ByteArray} (h : TAt w (some ⟨b, o, none⟩) T) {i : Nat} (hi : i < T.length) : w.cell? ⟨b, o + i, none⟩ = some (.string (txAt T i)) := by
  obtain ⟨b', o', e, hc⟩ := h (by intro e; simp at e; subst e; simp at hi)
  cases e
  have := hc i (by simpa using hi)
  rw [this, ← txAt_eq hi]
  simp [S]
theorem TAt.take {w : World} {a : Option Addr} {T : List ByteArray} (h : TAt w a T) (k : Nat) : TAt w a (T.take k) := by
  intro hne
  have hT : T.map S ≠ [] := by intro e; simp at e; subst e; simp at hne
  obtain ⟨b, o, e, hc⟩ := h hT
  refine ⟨b, o, e, fun i hi => ?_⟩
  have hi2 : i < (T.map S).length := by simp at hi ⊢; omega
  rw [hc i hi2]
  simp
theorem TAt.drop {w : World} {b o : Nat} {T : List ByteArray} (h : TAt w (some ⟨b, o, none⟩) T) (k : Nat) : TAt w (some ⟨b, o + k, none⟩) (T.drop k) := by
  intro hne
  have hT : T.map S ≠ [] := by intro e; simp at e; subst e; simp at hne
  obtain ⟨b', o', e, hc⟩ := h hT
  cases e
  refine ⟨b, o + k, rfl, fun i hi => ?_⟩
  have hi2 : k + i < (T.map S).length := by simp at hi ⊢; omega
  have := hc (k + i) hi2
  rw [show o + k + i = o + (k + i) by omega, this]
  simp
theorem TOwn.tat {w : World} {base n c : Nat} {a : Option Addr} {T : List ByteArray} (h : TOwn w base (.slice a n c) T) : TAt w a T := owns_cat h
theorem TOwn.below {w w' : World} {base : Nat} {v : Value} {T : List ByteArray} (h : TOwn w base v T) (hb : Below w.heap.size w w') : TOwn w' base v T := owns_below h hb
theorem TOwn.low {w : World} {base base' : Nat} {v : Value} {T : List ByteArray} (h : TOwn w base v T) (hb : base' ≤ base) : TOwn w base' v T := owns_low h hb
theorem TOwn.nil (w : World) (base : Nat) : TOwn w base (.slice none 0 0) [] := World.ownsRow_nil _ _ _ _

end Go.Proofs.YtflapjehkgefdaaGreat
