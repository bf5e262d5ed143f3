/- SessionOnce: the law's world in memory. -/
import Derived.Test.YthjggjjocfbjcaaOnceQ
import Derived.Test.YthjggjjocfbjcaaTake
namespace Go.Proofs.Ythjggjjocfbjcaa
open Go.RowKit

/-- What waits lies in no block of S. -/
def KOff (S : Nat → Prop) (a : Option Addr) (ks : List KV) : Prop := (ks ≠ [] → ∀ x, a = some x → ¬ S x.block) ∧ ∀ k ∈ ks, k.body ≠ [] → ∀ x, k.a = some x → ¬ S x.block

def LOff (S : Nat → Prop) (a : Option Addr) (L : List CV) : Prop := (L ≠ [] → ∀ x, a = some x → ¬ S x.block) ∧ ∀ c ∈ L, KOff S c.a c.ks

theorem KAt.off {S : Nat → Prop} {w w' : World} {a : Option Addr} {ks : List KV} (h : KAt w 0 a ks) (hk : Kp S w w') (ho : KOff S a ks) : KAt w' 0 a ks := by
  refine ⟨?_, fun _ _ => Nat.zero_le _, fun k hk' => ?_, fun _ _ _ _ => Nat.zero_le _, h.short⟩
  · by_cases e : ks = []
    · subst e; exact CAt.nil _ _
    · exact h.row.kp hk (ho.1 e)
  · by_cases e : k.body = []
    · rw [e]; exact at_nil _ _
    · exact (h.body k hk').kp hk (ho.2 k hk' e)

theorem LAt.off {S : Nat → Prop} {w w' : World} {a : Option Addr} {L : List CV} (h : LAt w 0 a L) (hk : Kp S w w') (ho : LOff S a L) : LAt w' 0 a L := by
  refine ⟨?_, fun _ _ => Nat.zero_le _, fun c hc => (h.kept c hc).off hk (ho.2 c hc)⟩
  by_cases e : L = []
  · subst e; exact CAt.nil _ _
  · exact h.row.kp hk (ho.1 e)

theorem at_lt {w : World} {a : Option Addr} {l : List UInt8} (h : At w a l) (hl : l ≠ []) : ∀ x, a = some x → x.block < w.heap.size := by
  obtain ⟨b, o, rfl, hc⟩ := h hl
  intro x hx
  cases hx
  have := hc 0 (List.length_pos_iff.2 hl)
  exact World.block_lt_of_cell? w _ this

theorem KOff.more {S S' : Nat → Prop} {w : World} {a : Option Addr} {ks : List KV} (ho : KOff S a ks) (h : KAt w 0 a ks) (hs : ∀ k, k < w.heap.size → S' k → S k) : KOff S' a ks :=
  ⟨fun e x hx hS => ho.1 e x hx (hs _ (h.row.lt (kcells_ne e) x hx) hS), fun k hk e x hx hS => ho.2 k hk e x hx (hs _ (at_lt (h.body k hk) e x hx) hS)⟩

theorem LOff.more {S S' : Nat → Prop} {w : World} {a : Option Addr} {L : List CV} (ho : LOff S a L) (h : LAt w 0 a L) (hs : ∀ k, k < w.heap.size → S' k → S k) : LOff S' a L :=
  ⟨fun e x hx hS => ho.1 e x hx (hs _ (h.row.lt (ccells_ne e) x hx) hS), fun c hc => (ho.2 c hc).more (h.kept c hc) hs⟩

theorem KOff.new {S : Nat → Prop} {w : World} {lo : Nat} {a : Option Addr} {ks : List KV} (h : KAt w lo a ks) (hs : ∀ k, S k → k < lo) : KOff S a ks :=
  ⟨fun _ x hx hS => by have := hs _ hS; have := h.low x hx; omega, fun k hk _ x hx hS => by have := hs _ hS; have := h.blow k hk x hx; omega⟩

theorem LOff.new {S : Nat → Prop} {w : World} {lo : Nat} {a : Option Addr} {L : List CV} (h : LAt w lo a L) (hs : ∀ k, S k → k < lo) : LOff S a L :=
  ⟨fun _ x hx hS => by have := hs _ hS; have := h.low x hx; omega, fun c hc => KOff.new (h.kept c hc) hs⟩

/-- An asker, and where what waits lies. -/
structure AV where
  id : Int
  next : Int
  acked : Int
  a : Option Addr
  c : Nat
  ks : List KV

def AV.flat (x : AV) : PA := (x.id, x.next, x.acked, x.ks.map KV.flat)
def AV.wv (x : AV) : Value := .slice x.a x.ks.length x.c

def rowV (b : Nat) : Value := .slice (some ⟨b, 0, none⟩) 250 250

def upd {α : Type} (f : Nat → α) (k : Nat) (x : α) : Nat → α := fun j => if j = k then x else f j
theorem upd_same {α : Type} (f : Nat → α) (k : Nat) (x : α) : upd f k x k = x := if_pos rfl
theorem upd_other {α : Type} (f : Nat → α) {k j : Nat} (x : α) (h : j ≠ k) : upd f k x j = f j := if_neg h

def warr (lv : Value) (A : Nat → AV) (tv bv : Value) (rw_ : Nat → Nat) (ctr : Int) : Array Value :=
  #[lv, .int .i64 (A 0).id, .int .i64 (A 0).next, .int .i64 (A 0).acked, (A 0).wv, .int .i64 (A 1).id, .int .i64 (A 1).next, .int .i64 (A 1).acked, (A 1).wv,
    .int .i64 (A 2).id, .int .i64 (A 2).next, .int .i64 (A 2).acked, (A 2).wv, .int .i64 (A 3).id, .int .i64 (A 3).next, .int .i64 (A 3).acked, (A 3).wv, tv, bv,
    rowV (rw_ 0), rowV (rw_ 1), rowV (rw_ 2), rowV (rw_ 3), rowV (rw_ 4), rowV (rw_ 5), rowV (rw_ 6), rowV (rw_ 7), .int .i64 ctr]

def WB (w : World) (g : Nat) (lv : Value) (A : Nat → AV) (tv bv : Value) (rw_ : Nat → Nat) (ctr : Int) : Prop := w.heap[g]? = some (.cells (warr lv A tv bv rw_ ctr) 65 (0, 0))

section
variable {w : World} {g : Nat} {lv : Value} {A : Nat → AV} {tv bv : Value} {rw_ : Nat → Nat} {ctr : Int}
theorem WB.lt (h : WB w g lv A tv bv rw_ ctr) : g < w.heap.size := (Array.getElem?_eq_some_iff.1 h).1
theorem WB.kp {S : Nat → Prop} {w' : World} (h : WB w g lv A tv bv rw_ ctr) (hk : Kp S w w') (hn : ¬ S g) : WB w' g lv A tv bv rw_ ctr := by unfold WB; rw [hk.block g h.lt hn]; exact h
theorem WB.free (h : WB w g lv A tv bv rw_ ctr) (j : Nat) : w.frozen? ⟨g, j, none⟩ = false := by unfold WB at h; simp [World.frozen?, h]
theorem WB.cell (h : WB w g lv A tv bv rw_ ctr) (j : Nat) : w.cell? ⟨g, j, none⟩ = (warr lv A tv bv rw_ ctr)[j]? := cell_of_row _ g j _ 65 (0, 0) h
theorem WB.l (h : WB w g lv A tv bv rw_ ctr) : w.cell? ⟨g, 0, none⟩ = some lv := h.cell 0
theorem WB.t (h : WB w g lv A tv bv rw_ ctr) : w.cell? ⟨g, 17, none⟩ = some tv := h.cell 17
theorem WB.b (h : WB w g lv A tv bv rw_ ctr) : w.cell? ⟨g, 18, none⟩ = some bv := h.cell 18
theorem WB.c (h : WB w g lv A tv bv rw_ ctr) : w.cell? ⟨g, 27, none⟩ = some (.int .i64 ctr) := h.cell 27
theorem WB.a0 (h : WB w g lv A tv bv rw_ ctr) (k : Nat) (hk : k < 4) : w.cell? ⟨g, 1 + k * 4, none⟩ = some (.int .i64 (A k).id) := by
  rw [h.cell]; rcases (show k = 0 ∨ k = 1 ∨ k = 2 ∨ k = 3 by omega) with rfl | rfl | rfl | rfl <;> rfl
theorem WB.a1 (h : WB w g lv A tv bv rw_ ctr) (k : Nat) (hk : k < 4) : w.cell? ⟨g, 1 + k * 4 + 1, none⟩ = some (.int .i64 (A k).next) := by
  rw [h.cell]; rcases (show k = 0 ∨ k = 1 ∨ k = 2 ∨ k = 3 by omega) with rfl | rfl | rfl | rfl <;> rfl
theorem WB.a2 (h : WB w g lv A tv bv rw_ ctr) (k : Nat) (hk : k < 4) : w.cell? ⟨g, 1 + k * 4 + 2, none⟩ = some (.int .i64 (A k).acked) := by
  rw [h.cell]; rcases (show k = 0 ∨ k = 1 ∨ k = 2 ∨ k = 3 by omega) with rfl | rfl | rfl | rfl <;> rfl
theorem WB.a3 (h : WB w g lv A tv bv rw_ ctr) (k : Nat) (hk : k < 4) : w.cell? ⟨g, 1 + k * 4 + 3, none⟩ = some (A k).wv := by
  rw [h.cell]; rcases (show k = 0 ∨ k = 1 ∨ k = 2 ∨ k = 3 by omega) with rfl | rfl | rfl | rfl <;> rfl
theorem WB.d (h : WB w g lv A tv bv rw_ ctr) (k : Nat) (hk : k < 4) : w.cell? ⟨g, 19 + k, none⟩ = some (rowV (rw_ k)) := by
  rw [h.cell]; rcases (show k = 0 ∨ k = 1 ∨ k = 2 ∨ k = 3 by omega) with rfl | rfl | rfl | rfl <;> rfl
theorem WB.f (h : WB w g lv A tv bv rw_ ctr) (k : Nat) (hk : k < 4) : w.cell? ⟨g, 23 + k, none⟩ = some (rowV (rw_ (4 + k))) := by
  rw [h.cell]; rcases (show k = 0 ∨ k = 1 ∨ k = 2 ∨ k = 3 by omega) with rfl | rfl | rfl | rfl <;> rfl

theorem WB.setCell (h : WB w g lv A tv bv rw_ ctr) (j : Nat) (v : Value) : (w.setCell ⟨g, j, none⟩ v).heap[g]? = some (.cells ((warr lv A tv bv rw_ ctr).setIfInBounds j v) 65 (0, 0)) := by
  rw [setCell_eq_setRow w g j _ 65 (0, 0) _ h, setRow_heap w g _ _ 65 _ h]
theorem WB.setL (h : WB w g lv A tv bv rw_ ctr) (v : Value) : WB (w.setCell ⟨g, 0, none⟩ v) g v A tv bv rw_ ctr := h.setCell 0 v
theorem WB.setT (h : WB w g lv A tv bv rw_ ctr) (v : Value) : WB (w.setCell ⟨g, 17, none⟩ v) g lv A v bv rw_ ctr := h.setCell 17 v
theorem WB.setB (h : WB w g lv A tv bv rw_ ctr) (v : Value) : WB (w.setCell ⟨g, 18, none⟩ v) g lv A tv v rw_ ctr := h.setCell 18 v
theorem WB.setC (h : WB w g lv A tv bv rw_ ctr) (v : Int) : WB (w.setCell ⟨g, 27, none⟩ (.int .i64 v)) g lv A tv bv rw_ v := h.setCell 27 _
theorem WB.setA (h : WB w g lv A tv bv rw_ ctr) (k : Nat) (hk : k < 4) (x : AV) :
    WB ((((w.setCell ⟨g, 1 + k * 4, none⟩ (.int .i64 x.id)).setCell ⟨g, 1 + k * 4 + 1, none⟩ (.int .i64 x.next)).setCell ⟨g, 1 + k * 4 + 2, none⟩ (.int .i64 x.acked)).setCell ⟨g, 1 + k * 4 + 3, none⟩ x.wv) g lv (upd A k x) tv bv rw_ ctr := by
  have h1 := h.setCell (1 + k * 4) (.int .i64 x.id)
  have h2 := (setRow_heap _ g _ ((((warr lv A tv bv rw_ ctr).setIfInBounds (1 + k * 4) (.int .i64 x.id))).setIfInBounds (1 + k * 4 + 1) (.int .i64 x.next)) 65 (0, 0) h1)
  rw [← setCell_eq_setRow _ g (1 + k * 4 + 1) _ 65 (0, 0) _ h1] at h2
  have h3 := (setRow_heap _ g _ (((((warr lv A tv bv rw_ ctr).setIfInBounds (1 + k * 4) (.int .i64 x.id))).setIfInBounds (1 + k * 4 + 1) (.int .i64 x.next)).setIfInBounds (1 + k * 4 + 2) (.int .i64 x.acked)) 65 (0, 0) h2)
  rw [← setCell_eq_setRow _ g (1 + k * 4 + 2) _ 65 (0, 0) _ h2] at h3
  unfold WB
  rw [setCell_eq_setRow _ g (1 + k * 4 + 3) _ 65 (0, 0) _ h3, setRow_heap _ g _ _ 65 _ h3]
  rcases (show k = 0 ∨ k = 1 ∨ k = 2 ∨ k = 3 by omega) with rfl | rfl | rfl | rfl <;> rfl
end

/-- A row of numbers. -/
def IR (w : World) (b : Nat) (l : List Int) : Prop := l.length = 250 ∧ w.heap[b]? = some (.cells (l.map (Value.int .i64)).toArray 3 (0, 0))

theorem IR.lt {w : World} {b : Nat} {l : List Int} (h : IR w b l) : b < w.heap.size := (Array.getElem?_eq_some_iff.1 h.2).1
theorem IR.kp {S : Nat → Prop} {w w' : World} {b : Nat} {l : List Int} (h : IR w b l) (hk : Kp S w w') (hn : ¬ S b) : IR w' b l := ⟨h.1, by rw [hk.block b h.lt hn]; exact h.2⟩
theorem IR.free {w : World} {b : Nat} {l : List Int} (h : IR w b l) (j : Nat) : w.frozen? ⟨b, j, none⟩ = false := by simp [World.frozen?, h.2]
theorem IR.cell {w : World} {b : Nat} {l : List Int} (h : IR w b l) (j : Nat) (hj : j < 250) : w.cell? ⟨b, j, none⟩ = some (.int .i64 (l.getD j 0)) := by
  rw [cell_of_row _ b j _ 3 (0, 0) h.2]
  have h1 : j < l.length := by rw [h.1]; exact hj
  simp [h1]
theorem IR.set {w : World} {b : Nat} {l : List Int} (h : IR w b l) (j : Nat) (v : Int) : IR (w.setCell ⟨b, j, none⟩ (.int .i64 v)) b (l.set j v) := by
  refine ⟨by simp [h.1], ?_⟩
  rw [setCell_eq_setRow w b j _ 3 (0, 0) _ h.2, setRow_heap w b _ _ 3 _ h.2]
  simp [List.map_set]

/-- A row of numbers as a function. -/
def rowF (l : List Int) (r : Int) : Int := if 0 ≤ r then l.getD r.toNat 0 else 0

theorem rowF_set (l : List Int) (r n : Int) (h : 0 ≤ r) (hl : r < l.length) : rowF (l.set r.toNat n) = fun x => if x = r then n else rowF l x := by
  funext x
  unfold rowF
  by_cases e : x = r
  · subst e
    rw [if_pos h, if_pos rfl]
    simp only [List.getD_eq_getElem?_getD, List.getElem?_set]
    rw [if_pos trivial, if_pos (by omega)]
    rfl
  · rw [if_neg e]
    by_cases h0 : 0 ≤ x
    · rw [if_pos h0, if_pos h0]
      simp only [List.getD_eq_getElem?_getD, List.getElem?_set]
      rw [if_neg (by omega)]
    · rw [if_neg h0, if_neg h0]

end Go.Proofs.Ythjggjjocfbjcaa
