/- What stays of a memory of which only some blocks may turn; a reader's block; what fresh, isOne, New and Left answer; for up to 140737489000000 bytes. -/
import Derived.Test.YtdhafnmahpafaaaSums
import Derived.Test.YtdhafnmahpafaaaFrames
import Derived.Laws.OwnMore
namespace Go.Proofs.Ytdhafnmahpafaaa
open Go.RowKit

/-- Of the blocks of w only those in S may have turned. -/
structure Kp (S : Nat → Prop) (w w' : World) : Prop where
  os : w'.os = w.os
  tape : w'.tape = w.tape
  output : w'.output = w.output
  size : w.heap.size ≤ w'.heap.size
  block : ∀ k, k < w.heap.size → ¬ S k → w'.heap[k]? = w.heap[k]?

theorem Kp.refl (S : Nat → Prop) (w : World) : Kp S w w := ⟨rfl, rfl, rfl, Nat.le_refl _, fun _ _ _ => rfl⟩

theorem Kp.trans {S : Nat → Prop} {a b c : World} (h : Kp S a b) (k : Kp S b c) : Kp S a c :=
  ⟨k.os.trans h.os, k.tape.trans h.tape, k.output.trans h.output, Nat.le_trans h.size k.size, fun i hi hs => (k.block i (Nat.lt_of_lt_of_le hi h.size) hs).trans (h.block i hi hs)⟩

theorem Kp.mono {S S' : Nat → Prop} {w w' : World} (h : Kp S w w') (hs : ∀ k, k < w.heap.size → S k → S' k) : Kp S' w w' := ⟨h.os, h.tape, h.output, h.size, fun k hk hn => h.block k hk fun h1 => hn (hs k hk h1)⟩

theorem Kp.of_below {S : Nat → Prop} {w w' : World} (h : Below w.heap.size w w') : Kp S w w' := ⟨h.os, h.tape, h.output, h.size, fun k hk _ => h.block k hk⟩

/-- Two steps: what the second one turns is in S, or new to the first. -/
theorem Kp.next {S S' : Nat → Prop} {a b c : World} (h : Kp S a b) (k : Kp S' b c) (hs : ∀ i, i < a.heap.size → S' i → S i) : Kp S a c :=
  ⟨k.os.trans h.os, k.tape.trans h.tape, k.output.trans h.output, Nat.le_trans h.size k.size, fun i hi hn => (k.block i (Nat.lt_of_lt_of_le hi h.size) fun h1 => hn (hs i hi h1)).trans (h.block i hi hn)⟩

theorem Kp.then {S : Nat → Prop} {a b c : World} (h : Kp S a b) (k : Below b.heap.size b c) : Kp S a c := h.trans (Kp.of_below k)

theorem Kp.below {S : Nat → Prop} {w w' : World} {base : Nat} (h : Kp S w w') (hs : ∀ k, S k → base ≤ k) (hb : base ≤ w.heap.size) : Below base w w' :=
  ⟨h.os, h.tape, h.output, h.size, fun k hk => h.block k (by omega) fun h1 => by have := hs k h1; omega⟩

theorem Kp.grown {w w' : World} {row : Option Nat} (h : w.grownBy w' row) : Kp (fun k => row = some k) w w' := ⟨h.os, h.tape, h.output, h.size, fun k hk hn => h.block k hk fun e => hn e.symm⟩

theorem Kp.setCell {S : Nat → Prop} {a w : World} (h : Kp S a w) {p : Addr} (hp : S p.block) (u : Value) : Kp S a (w.setCell p u) :=
  h.trans ⟨rfl, rfl, rfl, by simp [World.setCell], fun k _ hn => Below.heap_setCell _ _ _ _ (fun e => hn (by rw [e]; exact hp))⟩

theorem At.kp {S : Nat → Prop} {w w' : World} {a : Option Addr} {l : List UInt8} (h : At w a l) (hk : Kp S w w') (hn : ∀ x, a = some x → ¬ S x.block) : At w' a l := by
  intro hl
  obtain ⟨b, o, rfl, hc⟩ := h hl
  refine ⟨b, o, rfl, fun i hi => ?_⟩
  have h1 := hc i hi
  rw [World.cell?_of_block (w := w) (a := ⟨b, o + i, none⟩) (hk.block b (World.block_lt_of_cell? w _ h1) (hn ⟨b, o, none⟩ rfl))]
  exact h1

theorem owns_kp {S : Nat → Prop} {w w' : World} {base : Nat} {e : TypeId} {size : Nat} {v : Value} {n : Nat} {xs : List Value} (h : w.ownsRow base e size v n xs) (hk : Kp S w w') (hn : ∀ k, v.ownBlock = some k → ¬ S k) : w'.ownsRow base e size v n xs := by
  refine ⟨h.1, ?_⟩
  rcases h.2 with hn0 | ⟨g, cap, cur, rfl, hb, hgg, rest⟩
  · exact .inl hn0
  · refine .inr ⟨g, cap, cur, rfl, hb, ?_, rest⟩
    rw [hk.block g (Array.getElem?_eq_some_iff.1 hgg).1 (hn g rfl)]
    exact hgg

theorem Own.kp {S : Nat → Prop} {w w' : World} {base : Nat} {v : Value} {l : List UInt8} (h : Own w base v l) (hk : Kp S w w') (hn : ∀ k, v.ownBlock = some k → ¬ S k) : Own w' base v l := owns_kp h hk hn

theorem Own.lt {w : World} {base : Nat} {v : Value} {l : List UInt8} (h : Own w base v l) : ∀ k, v.ownBlock = some k → base ≤ k ∧ k < w.heap.size := World.ownsRow.lt h

theorem Own.below {w w' : World} {base : Nat} {v : Value} {l : List UInt8} (h : Own w base v l) (hb : Below w.heap.size w w') : Own w' base v l := h.kp (S := fun _ => False) (Kp.of_below hb) (fun _ _ h => h)

/-- The reader's block: made, broken, what is left. -/
def Blk (w : World) (p : Nat) (br : Bool) (v : Value) : Prop := w.heap[p]? = some (.cells #[.bool true, .bool br, v] 46 (0, 0))

theorem Blk.c0 {w : World} {p : Nat} {br : Bool} {v : Value} (h : Blk w p br v) : w.cell? ⟨p, 0, none⟩ = some (.bool true) := by unfold Blk at h; simp [World.cell?, h]
theorem Blk.c1 {w : World} {p : Nat} {br : Bool} {v : Value} (h : Blk w p br v) : w.cell? ⟨p, 1, none⟩ = some (.bool br) := by unfold Blk at h; simp [World.cell?, h]
theorem Blk.c2 {w : World} {p : Nat} {br : Bool} {v : Value} (h : Blk w p br v) : w.cell? ⟨p, 2, none⟩ = some v := by unfold Blk at h; simp [World.cell?, h]
theorem Blk.free {w : World} {p : Nat} {br : Bool} {v : Value} (h : Blk w p br v) (i : Nat) : w.frozen? ⟨p, i, none⟩ = false := by unfold Blk at h; simp [World.frozen?, h]
theorem Blk.lt {w : World} {p : Nat} {br : Bool} {v : Value} (h : Blk w p br v) : p < w.heap.size := (Array.getElem?_eq_some_iff.1 h).1

theorem Blk.kp {S : Nat → Prop} {w w' : World} {p : Nat} {br : Bool} {v : Value} (h : Blk w p br v) (hk : Kp S w w') (hn : ¬ S p) : Blk w' p br v := by
  unfold Blk; rw [hk.block p h.lt hn]; exact h

theorem Blk.below {w w' : World} {p : Nat} {br : Bool} {v : Value} (h : Blk w p br v) (hb : Below w.heap.size w w') : Blk w' p br v := h.kp (S := fun _ => False) (Kp.of_below hb) (fun h => h)

theorem Blk.ne {w : World} {p base : Nat} {br : Bool} {v u : Value} {l : List UInt8} (h : Blk w p br v) (ho : Own w base u l) : ∀ k, u.ownBlock = some k → k ≠ p := by
  intro k hk e
  subst e
  rcases ho.2 with ⟨rfl, _⟩ | ⟨g, cap, cur, rfl, _, hg, _⟩
  · cases hk
  · simp [Value.ownBlock] at hk
    subst hk
    unfold Blk at h
    rw [h] at hg
    simp at hg

theorem Blk.set1 {w : World} {p : Nat} {br : Bool} {v : Value} (h : Blk w p br v) (b : Bool) : Blk (w.setCell ⟨p, 1, none⟩ (.bool b)) p b v := by
  unfold Blk at *
  rw [setCell_eq_setRow w p 1 _ 46 (0, 0) _ h, setRow_heap w p _ _ 46 _ h]
  simp

theorem Blk.set2 {w : World} {p : Nat} {br : Bool} {v : Value} (h : Blk w p br v) (u : Value) : Blk (w.setCell ⟨p, 2, none⟩ u) p br u := by
  unfold Blk at *
  rw [setCell_eq_setRow w p 2 _ 46 (0, 0) _ h, setRow_heap w p _ _ 46 _ h]
  simp

/-- A reader: broken, or the bytes that are left lie in a row of its own. -/
def Rd (w : World) (p : Nat) (v : Value) (st : Option (List UInt8)) : Prop := Blk w p st.isNone v ∧ Own w 0 v (st.getD [])

theorem Rd.kp {S : Nat → Prop} {w w' : World} {p : Nat} {v : Value} {st : Option (List UInt8)} (h : Rd w p v st) (hk : Kp S w w') (hp : ¬ S p) (hn : ∀ k, v.ownBlock = some k → ¬ S k) : Rd w' p v st := ⟨h.1.kp hk hp, h.2.kp hk hn⟩

theorem Rd.below {w w' : World} {p : Nat} {v : Value} {st : Option (List UInt8)} (h : Rd w p v st) (hb : Below w.heap.size w w') : Rd w' p v st := ⟨h.1.below hb, h.2.below hb⟩

theorem fresh_any (a : Option Addr) (cap len : Nat) (l : List UInt8) (w : World) (hl : l.length = len) (hlen : len ≤ 140737489000000) (hat : At w a l) :
    Calls Try.prog 32 #[.slice a len cap] w fun e w' => ∃ v, e = .returned v ∧ Own w' w.heap.size v l ∧ Below w.heap.size w w' := by
  go_enter Try.func32, Try.ntmps32
  go_wp2_with (at_builtin; refine wpList_app _ rfl (.const (.slice none 0 0)) (.tmp 3) rfl rfl w.heap.size _ [] l rfl (Own.nil _ _) a len cap rfl hl hat (by simp; omega) (Nat.le_refl _) ?_; intro v1 w1 ho1 hb1)
  go_ret
  exact ⟨_, rfl, ho1, hb1⟩

theorem isone_yes (p : Nat) (br : Bool) (v : Value) (w : World) (h : Blk w p br v) :
    Calls Try.prog 27 #[.pointer (some ⟨p, 0, none⟩)] w fun e w' => e = .returned (.bool true) ∧ w' = w := by
  have h0 := h.c0
  go_enter Try.func27, Try.ntmps27
  go_wp2
  go_ret
  exact ⟨rfl, rfl⟩

theorem isone_nil (w : World) :
    Calls Try.prog 27 #[.pointer none] w fun e w' => e = .returned (.bool false) ∧ w' = w := by
  go_enter Try.func27, Try.ntmps27
  go_wp2
  go_ret
  exact ⟨rfl, rfl⟩

theorem isone_zero (p : Nat) (w : World) (h : w.cell? ⟨p, 0, none⟩ = some (.bool false)) :
    Calls Try.prog 27 #[.pointer (some ⟨p, 0, none⟩)] w fun e w' => e = .returned (.bool false) ∧ w' = w := by
  go_enter Try.func27, Try.ntmps27
  go_wp2
  go_ret
  exact ⟨rfl, rfl⟩

theorem new_any (w : World) :
    Calls Try.prog 9 #[] w fun e w' => ∃ p, e = .returned (.pointer (some ⟨p, 0, none⟩)) ∧ w.heap.size ≤ p ∧ Rd w' p (.slice none 0 0) (some []) ∧ Below w.heap.size w w' := by
  go_enter Try.func9, Try.ntmps9
  go_wp2
  go_ret
  exact ⟨_, rfl, Nat.le_refl _, ⟨heap_alloc_new w _, Own.nil _ _⟩, below_lit w _⟩

theorem left_any (p : Nat) (v : Value) (st : Option (List UInt8)) (w : World) (h : Rd w p v st) :
    Calls Try.prog 11 #[.pointer (some ⟨p, 0, none⟩)] w fun e w' => e = .returned (.int .i64 ((st.getD []).length : Int)) ∧ w' = w := by
  obtain ⟨a, cap, rfl, _, _⟩ := h.2.form
  have h2 := h.1.c2
  go_enter Try.func11, Try.ntmps11
  go_wp2_with fail
  refine (isone_yes p _ _ _ h.1).mono ?_
  rintro e w1 ⟨rfl, rfl⟩
  go_wp2
  go_ret
  exact ⟨rfl, rfl⟩
end Go.Proofs.Ytdhafnmahpafaaa
