/- NetPlays: blocks that are filled behind a call. -/
import Derived.Test.YtgjjgfppolmkoaaPlaysC
namespace Go.Proofs.Ytgjjgfppolmkoaa
open Go.RowKit Go.Maps

/-- A net's and a packet's block are filled. -/
theorem six_cells (w : World) (g h : Nat) (x y a b c d : Value) : Kp (fun k => k = g ∨ k = h) w ((((((w.setCell ⟨g, 0, none⟩ x).setCell ⟨g, 1, none⟩ y).setCell ⟨h, 0, none⟩ a).setCell ⟨h, 1, none⟩ b).setCell ⟨h, 2, none⟩ c).setCell ⟨h, 3, none⟩ d) :=
  (((((((Kp.refl _ w).setCell (p := ⟨g, 0, none⟩) (.inl rfl) x).setCell (p := ⟨g, 1, none⟩) (.inl rfl) y).setCell (p := ⟨h, 0, none⟩) (.inr rfl) a).setCell (p := ⟨h, 1, none⟩) (.inr rfl) b).setCell (p := ⟨h, 2, none⟩) (.inr rfl) c).setCell (p := ⟨h, 3, none⟩) (.inr rfl) d)

theorem set_heap {w : World} {g i t : Nat} {cur : Array Value} (hg : w.heap[g]? = some (.cells cur t (0, 0))) (v : Value) : (w.setCell ⟨g, i, none⟩ v).heap[g]? = some (.cells (cur.setIfInBounds i v) t (0, 0)) := by
  rw [setCell_eq_setRow w g i cur t (0, 0) v hg, setRow_heap w g cur _ t _ hg]
theorem set_other {w : World} {g h i : Nat} (hne : ¬ h = g) (v : Value) : (w.setCell ⟨g, i, none⟩ v).heap[h]? = w.heap[h]? := Below.heap_setCell _ _ _ _ hne

theorem six_r (w : World) (g h : Nat) (hne : ¬ g = h) (hg : w.heap[g]? = some (.cells #[.slice none 0 0, .int .i64 0] 40 (0, 0))) (x y a b c d : Value) : RBlk ((((((w.setCell ⟨g, 0, none⟩ x).setCell ⟨g, 1, none⟩ y).setCell ⟨h, 0, none⟩ a).setCell ⟨h, 1, none⟩ b).setCell ⟨h, 2, none⟩ c).setCell ⟨h, 3, none⟩ d) g x y := by
  unfold RBlk
  rw [set_other hne, set_other hne, set_other hne, set_other hne, set_heap (set_heap hg x) y]
  rfl
theorem six_p (w : World) (g h : Nat) (hne : ¬ g = h) (hg : w.heap[h]? = some (.cells #[.int .i64 0, .int .i64 0, .int .i64 0, .slice none 0 0] 31 (0, 0))) (x y a b c d : Value) : PBlk ((((((w.setCell ⟨g, 0, none⟩ x).setCell ⟨g, 1, none⟩ y).setCell ⟨h, 0, none⟩ a).setCell ⟨h, 1, none⟩ b).setCell ⟨h, 2, none⟩ c).setCell ⟨h, 3, none⟩ d) h a b c d := by
  have h0 : ((w.setCell ⟨g, 0, none⟩ x).setCell ⟨g, 1, none⟩ y).heap[h]? = some (.cells #[.int .i64 0, .int .i64 0, .int .i64 0, .slice none 0 0] 31 (0, 0)) := by
    rw [set_other (fun e => hne e.symm), set_other (fun e => hne e.symm)]; exact hg
  unfold PBlk
  rw [set_heap (set_heap (set_heap (set_heap h0 a) b) c) d]
  rfl

theorem lcell {w : World} {gl on : Nat} {x u y v : Value} (h : w.heap[gl]? = some (.cells (arr4 on x u y v) 41 (0, 0))) (hon : on < 2) : w.cell? ⟨gl, on * 2, none⟩ = some x ∧ w.cell? ⟨gl, on * 2 + 1, none⟩ = some u ∧ w.frozen? ⟨gl, on * 2, none⟩ = false ∧ w.frozen? ⟨gl, on * 2 + 1, none⟩ = false := by
  refine ⟨?_, ?_, ?_, ?_⟩
  · rw [cell_of_row _ gl (on * 2) _ 41 (0, 0) h]
    rcases (show on = 0 ∨ on = 1 by omega) with rfl | rfl <;> rfl
  · rw [cell_of_row _ gl (on * 2 + 1) _ 41 (0, 0) h]
    rcases (show on = 0 ∨ on = 1 by omega) with rfl | rfl <;> rfl
  · simp [World.frozen?, h]
  · simp [World.frozen?, h]

/-- What the document tells of Send and Double, slot by slot, from place k on. -/
def R22 (k : Nat) (T : Nat → Prop) (Ok : Option Addr → List Pk → Prop) (W1 p m : Nat) (L1 : List Pk) (last1 : Nat) (num ec : Int) (q : Nat) (v : Value) (w : World) : Prop :=
  if q = k ∨ q = k + 1 then ∃ a1 n1 c1 R1, v = .tuple #[.agg #[.slice a1 n1 c1, .int .i64 (last1 : Int)], .int .i64 num, .int .i64 ec] ∧ Side T w p m L1 last1 a1 n1 c1 R1 ∧ Ok a1 R1
  else if q = k + 2 then ∃ a1 n1 c1 R1, v = .agg #[.slice a1 n1 c1, .int .i64 (last1 : Int)] ∧ Side T w p m L1 last1 a1 n1 c1 R1 ∧ Ok a1 R1
  else if q = k + 3 then v = .int .i64 num
  else if q = k + 4 then v = .int .i64 ec
  else NewB W1 40 z40 v w

theorem R22.below {k : Nat} {T : Nat → Prop} {Ok : Option Addr → List Pk → Prop} {W1 p m : Nat} {L1 : List Pk} {last1 : Nat} {num ec : Int} {q : Nat} {v : Value} {w w' : World} (hb : Below w.heap.size w w') (h : R22 k T Ok W1 p m L1 last1 num ec q v w) : R22 k T Ok W1 p m L1 last1 num ec q v w' := by
  unfold R22 at *
  split at h
  · rename_i e; rw [if_pos e]
    obtain ⟨a1, n1, c1, R1, e1, h1, h2⟩ := h
    exact ⟨a1, n1, c1, R1, e1, h1.below hb, h2⟩
  · rename_i e; rw [if_neg e]
    split at h
    · rename_i e; rw [if_pos e]
      obtain ⟨a1, n1, c1, R1, e1, h1, h2⟩ := h
      exact ⟨a1, n1, c1, R1, e1, h1.below hb, h2⟩
    · rename_i e; rw [if_neg e]
      split at h
      · rename_i e; rw [if_pos e]; exact h
      · rename_i e; rw [if_neg e]
        split at h
        · rename_i e; rw [if_pos e]; exact h
        · rename_i e; rw [if_neg e]; exact NewB.below h hb

/-- What the program tells of Deliver, slot by slot. -/
def R23 (W : Nat) (X0 X1 X2 : Int) (B : List UInt8) (ec : Int) (q : Nat) (v : Value) (w : World) : Prop :=
  if q = 5 ∨ q = 6 then ∃ b1 c1, v = .tuple #[.agg #[.int .i64 X0, .int .i64 X1, .int .i64 X2, .slice b1 B.length c1], .int .i64 ec] ∧ At w b1 B ∧ ∀ x, b1 = some x → W ≤ x.block
  else if q = 7 then ∃ b1 c1, v = .agg #[.int .i64 X0, .int .i64 X1, .int .i64 X2, .slice b1 B.length c1] ∧ At w b1 B ∧ ∀ x, b1 = some x → W ≤ x.block
  else if q = 8 then v = .int .i64 ec
  else NewB W 31 z31 v w

theorem R23.kp {S : Nat → Prop} {W : Nat} {X0 X1 X2 : Int} {B : List UInt8} {ec : Int} {q : Nat} {v : Value} {w w' : World} (hk : Kp S w w') (hS : ∀ k, S k → k < W) (h : R23 W X0 X1 X2 B ec q v w) : R23 W X0 X1 X2 B ec q v w' := by
  have ha : ∀ {b1 : Option Addr}, At w b1 B → (∀ x, b1 = some x → W ≤ x.block) → At w' b1 B := fun h1 h2 => h1.kp hk (fun x hx e => by have := h2 x hx; have := hS _ e; omega)
  unfold R23 at *
  split at h
  · rename_i e; rw [if_pos e]
    obtain ⟨b1, c1, e1, h1, h2⟩ := h
    exact ⟨b1, c1, e1, ha h1 h2, h2⟩
  · rename_i e; rw [if_neg e]
    split at h
    · rename_i e; rw [if_pos e]
      obtain ⟨b1, c1, e1, h1, h2⟩ := h
      exact ⟨b1, c1, e1, ha h1 h2, h2⟩
    · rename_i e; rw [if_neg e]
      split at h
      · rename_i e; rw [if_pos e]; exact h
      · rename_i e; rw [if_neg e]; exact NewB.kp h hk hS

theorem R23.below {W : Nat} {X0 X1 X2 : Int} {B : List UInt8} {ec : Int} {q : Nat} {v : Value} {w w' : World} (hb : Below w.heap.size w w') (h : R23 W X0 X1 X2 B ec q v w) : R23 W X0 X1 X2 B ec q v w' := h.kp (S := fun _ => False) (Kp.of_below hb) (fun _ e => e.elim)

theorem two_r {w : World} {g : Nat} (hg : w.heap[g]? = some (.cells #[.slice none 0 0, .int .i64 0] 40 (0, 0))) (x y : Value) : RBlk ((w.setCell ⟨g, 0, none⟩ x).setCell ⟨g, 1, none⟩ y) g x y := by
  unfold RBlk
  rw [set_heap (set_heap hg x) y]
  rfl

end Go.Proofs.Ytgjjgfppolmkoaa
