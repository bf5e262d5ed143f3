/- Accounts and texts in memory; rows of the call's own. -/
import Derived.Test.YtomdghodbkhkaaaGreatDoorBase
import Derived.Laws.CopyRow
import Derived.BigQuiet
import Derived.Deep.RegionHeld
import Derived.RegionTactic
namespace Go.Proofs.YtomdghodbkhkaaaGreatDoor
open Go.RowKit

theorem hid {p : Prop} (h : p) : Hid p := h

theorem take_more {α : Type} {L : List α} {j : Nat} (h : j < L.length) : L.take (j + 1) = L.take j ++ [L[j]] := by
  rw [List.take_add_one, List.getElem?_eq_getElem h]; rfl


/-- A row that has cells lies at the head of a block of its own, which may be written. -/
theorem owns_spot {w : World} {base e size n : Nat} {v : Value} {xs : List Value} (h : w.ownsRow base e size v n xs) (h0 : 0 < n) : ∃ g c, v = .slice (some ⟨g, 0, none⟩) n c ∧ base ≤ g ∧ g < w.heap.size ∧ n ≤ c ∧ ∀ i, w.frozen? ⟨g, i, none⟩ = false := by
  rcases h.2 with ⟨_, hn⟩ | ⟨g, cap, cur, rfl, hb, hg, hc, _⟩
  · omega
  · exact ⟨g, cap, rfl, hb, (Array.getElem?_eq_some_iff.1 hg).1, hc, fun i => by simp [World.frozen?, hg]⟩

theorem owns_put {w : World} {base e size n g c i : Nat} {xs : List Value} (h : w.ownsRow base e size (.slice (some ⟨g, 0, none⟩) n c) n xs) (hi : i < n * size) (u : Value) :
    (w.setCell ⟨g, i, none⟩ u).ownsRow base e size (.slice (some ⟨g, 0, none⟩) n c) n (xs.set i u) := by
  refine ⟨by rw [List.length_set]; exact h.1, ?_⟩
  rcases h.2 with ⟨hv, hn⟩ | ⟨g', cap, cur, hv, hb, hg, hc, hm, hs, ht⟩
  · subst hn; omega
  · simp only [Value.slice.injEq, Option.some.injEq, Addr.mk.injEq] at hv
    obtain ⟨⟨rfl, _, _⟩, _, rfl⟩ := hv
    refine .inr ⟨g, c, cur.setIfInBounds i u, rfl, hb, ?_, hc, hm, by simpa using hs, ?_⟩
    · rw [setCell_eq_setRow w g i cur e (0, 0) u hg, setRow_heap w g cur _ e _ hg]
    · rw [← ht]
      simp [List.take_set]

theorem text_ne {s t : ByteArray} (h : s ≠ t) : (s.toList == t.toList) = false := by
  rw [beq_eq_false_iff_ne, ByteArray.toList_eq, ByteArray.toList_eq]; exact fun e => h (WideShapes.bytes_inj e)
theorem text_eq {s t : ByteArray} (h : s = t) : (s.toList == t.toList) = true := by subst h; simp

theorem below_drewN {w w' : World} {base : Nat} (h : Below base w w') (n : Nat) : Below base w (w'.drewN n) := h.trans ⟨rfl, rfl, rfl, Nat.le_refl _, fun _ _ => rfl⟩
theorem drew_below (w : World) : Below w.heap.size w w.drew := (Below.refl _ _).drew
theorem stay {w w' : World} {p : Addr} {v : Value} (hb : Below w.heap.size w w') (h : w.cell? p = some v) : w'.cell? p = some v := by
  rw [hb.cell (World.block_lt_of_cell? w p h)]; exact h
theorem cell_new (w : World) (v : Value) (t : Nat) : (w.alloc (.cells #[v] t)).cell? ⟨w.heap.size, 0, none⟩ = some v := by
  obtain ⟨b, o, e, h⟩ := cat_lit w t [v] #[v] rfl (by simp)
  cases e
  exact h 0 (by simp)
abbrev ptr (g : Nat) : Value := .pointer (some ⟨g, 0, none⟩)

/-- A text as a cell. -/
abbrev S (s : ByteArray) : Value := .string s
def txAt (T : List ByteArray) (i : Nat) : ByteArray := T.getD i ByteArray.empty
theorem txAt_eq {T : List ByteArray} {i : Nat} (h : i < T.length) : T[i] = txAt T i := by simp [txAt, h]
theorem info9 : (Tryz.prog.info? 9).map (fun i => (i.zero, i.size, i.bytes)) = some (some (.string ByteArray.empty), 1, 16) := by kernel_rfl
theorem S_one (T : List ByteArray) : ∀ u ∈ T.map S, u.oneCell' = true := by
  intro u hu
  obtain ⟨x, _, rfl⟩ := List.mem_map.1 hu
  rfl
theorem one_S (s : ByteArray) : ∀ u ∈ [Value.string s], u.oneCell' = true := by
  intro u hu
  simp at hu
  subst hu; rfl

def TAt (w : World) (a : Option Addr) (T : List ByteArray) : Prop := CAt w a (T.map S)
def TOwn (w : World) (base : Nat) (v : Value) (T : List ByteArray) : Prop := w.ownsRow base 9 1 v T.length (T.map S)

theorem TAt.below {w w' : World} {a : Option Addr} {C : List ByteArray} (h : TAt w a C) (hb : Below w.heap.size w w') : TAt w' a C := CAt.below h hb
theorem TAt.kp {P : Nat → Prop} {w w' : World} {a : Option Addr} {C : List ByteArray} (h : TAt w a C) (hk : Kp P w w') (hn : ∀ x, a = some x → ¬ P x.block) : TAt w' a C := CAt.kp h hk hn
theorem TAt.nil (w : World) (a : Option Addr) : TAt w a [] := CAt.nil w a
theorem TAt.place {w : World} {a : Option Addr} {T : List ByteArray} (h : TAt w a T) (h0 : 0 < T.length) : ∃ b o, a = some ⟨b, o, none⟩ := by
  obtain ⟨b, o, e, _⟩ := h (by intro e; simp at e; subst e; simp at h0)
  exact ⟨b, o, e⟩
theorem TAt.one {w : World} {b o : Nat} {T : List ByteArray} (h : TAt w (some ⟨b, o, none⟩) T) {i : Nat} (hi : i < T.length) : w.cell? ⟨b, o + i, none⟩ = some (.string (txAt T i)) := by
  obtain ⟨b', o', e, hc⟩ := h (by intro e; simp at e; subst e; simp at hi)
  cases e
  have := hc i (by simpa using hi)
  rw [this, ← txAt_eq hi]
  simp [S]
theorem TAt.take {w : World} {a : Option Addr} {T : List ByteArray} (h : TAt w a T) (k : Nat) : TAt w a (T.take k) := by
  intro hne
  have hT : T.map S ≠ [] := by intro e; simp at e; subst e; simp at hne
  obtain ⟨b, o, e, hc⟩ := h hT
  refine ⟨b, o, e, fun i hi => ?_⟩
  have hi2 : i < (T.map S).length := by simp at hi ⊢; omega
  rw [hc i hi2]
  simp
theorem TAt.drop {w : World} {b o : Nat} {T : List ByteArray} (h : TAt w (some ⟨b, o, none⟩) T) (k : Nat) : TAt w (some ⟨b, o + k, none⟩) (T.drop k) := by
  intro hne
  have hT : T.map S ≠ [] := by intro e; simp at e; subst e; simp at hne
  obtain ⟨b', o', e, hc⟩ := h hT
  cases e
  refine ⟨b, o + k, rfl, fun i hi => ?_⟩
  have hi2 : k + i < (T.map S).length := by simp at hi ⊢; omega
  have := hc (k + i) hi2
  rw [show o + k + i = o + (k + i) by omega, this]
  simp
theorem TOwn.tat {w : World} {base n c : Nat} {a : Option Addr} {T : List ByteArray} (h : TOwn w base (.slice a n c) T) : TAt w a T := owns_cat h
theorem TOwn.below {w w' : World} {base : Nat} {v : Value} {T : List ByteArray} (h : TOwn w base v T) (hb : Below w.heap.size w w') : TOwn w' base v T := owns_below h hb
theorem TOwn.low {w : World} {base base' : Nat} {v : Value} {T : List ByteArray} (h : TOwn w base v T) (hb : base' ≤ base) : TOwn w base' v T := owns_low h hb
theorem TOwn.nil (w : World) (base : Nat) : TOwn w base (.slice none 0 0) [] := World.ownsRow_nil _ _ _ _

end Go.Proofs.YtomdghodbkhkaaaGreatDoor
