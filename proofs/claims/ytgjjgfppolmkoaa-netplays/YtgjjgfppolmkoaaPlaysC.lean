/- NetPlays: what stands ahead of, and behind, one operation of the script. -/
import Derived.Test.YtgjjgfppolmkoaaPlaysRes
import Derived.Test.YtgjjgfppolmkoaaPlaysVals
namespace Go.Proofs.Ytgjjgfppolmkoaa
open Go.RowKit Go.Maps

/-- The operation's block. -/
def O9 (w : World) (g9 : Nat) (kind onv fr to : Int) (ba : Option Addr) (len bc : Nat) (num : Int) : Prop := w.heap[g9]? = some (.cells #[.int .i64 kind, .int .i64 onv, .int .i64 fr, .int .i64 to, .slice ba len bc, .int .i64 num] 45 (0, 0))

theorem O9.lt {w : World} {g9 : Nat} {kind onv fr to : Int} {ba : Option Addr} {len bc : Nat} {num : Int} (h : O9 w g9 kind onv fr to ba len bc num) : g9 < w.heap.size := (Array.getElem?_eq_some_iff.1 h).1
theorem O9.kp {S : Nat → Prop} {w w' : World} {g9 : Nat} {kind onv fr to : Int} {ba : Option Addr} {len bc : Nat} {num : Int} (h : O9 w g9 kind onv fr to ba len bc num) (hk : Kp S w w') (hn : ¬ S g9) : O9 w' g9 kind onv fr to ba len bc num := (hk.block g9 h.lt hn).trans h
theorem O9.cells {w : World} {g9 : Nat} {kind onv fr to : Int} {ba : Option Addr} {len bc : Nat} {num : Int} (h : O9 w g9 kind onv fr to ba len bc num) : w.cell? ⟨g9, 2, none⟩ = some (.int .i64 fr) ∧ w.cell? ⟨g9, 3, none⟩ = some (.int .i64 to) ∧ w.cell? ⟨g9, 4, none⟩ = some (.slice ba len bc) ∧ w.cell? ⟨g9, 5, none⟩ = some (.int .i64 num) := by
  unfold O9 at h
  refine ⟨?_, ?_, ?_, ?_⟩ <;> simp [World.cell?, h]

/-- Both nets ahead of an operation whose block is g9. -/
def PO (base gd gl g9 on : Nat) (w : World) (b : Nat) : Prop := ∃ p m L last a n c R p' m' L' last' a' n' c' R', View base gd gl on w p m L last a n c R p' m' L' last' a' n' c' R' ∧ last ≤ b ∧ last' ≤ b ∧ ¬ T6 p m p' m' gd gl g9
/-- Both nets behind it. -/
def PN (base gd gl on : Nat) (w : World) (b : Nat) : Prop := ∃ p m L last a n c R p' m' L' last' a' n' c' R', View base gd gl on w p m L last a n c R p' m' L' last' a' n' c' R' ∧ last ≤ b ∧ last' ≤ b

def z40 : Array Value := #[.slice none 0 0, .int .i64 0]
def z31 : Array Value := #[.int .i64 0, .int .i64 0, .int .i64 0, .slice none 0 0]

/-- A block of noughts that is new to a world of W blocks. -/
def NewB (W : Nat) (t : Nat) (z : Array Value) (v : Value) (w : World) : Prop := ∃ g, v = .pointer (some ⟨g, 0, none⟩) ∧ W ≤ g ∧ g < w.heap.size ∧ w.heap[g]? = some (.cells z t (0, 0))

theorem NewB.kp {S : Nat → Prop} {W t : Nat} {z : Array Value} {v : Value} {w w' : World} (h : NewB W t z v w) (hk : Kp S w w') (hS : ∀ k, S k → k < W) : NewB W t z v w' := by
  obtain ⟨g, e, h1, h2, h3⟩ := h
  exact ⟨g, e, h1, Nat.lt_of_lt_of_le h2 hk.size, (hk.block g h2 (fun e => by have := hS g e; omega)).trans h3⟩
theorem NewB.below {W t : Nat} {z : Array Value} {v : Value} {w w' : World} (h : NewB W t z v w) (hb : Below w.heap.size w w') : NewB W t z v w' := h.kp (S := fun _ => False) (Kp.of_below hb) (fun _ e => e.elim)

theorem PrV.mono2 {V : List Value} {X : List Nat} {R : Nat → Value → World → Prop} {q : Nat} {v : Value} {w w' : World} (hR : R q v w → R q v w') (p : PrV V X R q v w) : PrV V X R q v w' := by
  unfold PrV at *
  split at p
  · rename_i e; rw [if_pos e]; exact hR p
  · rename_i e; rw [if_neg e]; exact p

/-- Behind the program's call. -/
def TA (w : World) (p m : Nat) (L1 : List Pk) (last1 : Nat) (w' : World) : Prop := NAt w' p m L1 last1 ∧ Kp (Turn p m) w w'
def TB (w w' : World) : Prop := Below w.heap.size w w'

theorem tba {w w' : World} {p m last1 : Nat} {L1 : List Pk} (h : TB w w' ∨ TA w p m L1 last1 w') : Kp (Turn p m) w w' := by
  rcases h with h | h
  · exact Kp.of_below h
  · exact h.2

section
variable {base gd gl on g9 : Nat} {w w' : World} {p m : Nat} {L : List Pk} {last : Nat} {a : Option Addr} {n c : Nat} {R : List Pk} {p' m' : Nat} {L' : List Pk} {last' : Nat} {a' : Option Addr} {n' c' : Nat} {R' : List Pk}

theorem View.dk (h : View base gd gl on w p m L last a n c R p' m' L' last' a' n' c' R') (hk : Kp (Turn p m) w w') : w'.cell? ⟨gd, on, none⟩ = some (.pointer (some ⟨p, 0, none⟩)) := by
  obtain ⟨m1, m2, m3, m4, m5, m6, m7, m8, m9, m10, m11, m12, m13⟩ := h.ne
  have e : w'.heap[gd]? = w.heap[gd]? := hk.block gd h.dlt (by unfold Turn; omega)
  rw [World.cell?_of_block (w := w) (a := ⟨gd, on, none⟩) e]
  exact h.dcell

theorem View.lk (h : View base gd gl on w p m L last a n c R p' m' L' last' a' n' c' R') (hk : Kp (Turn p m) w w') : w'.cell? ⟨gl, on * 2, none⟩ = some (.slice a n c) ∧ w'.cell? ⟨gl, on * 2 + 1, none⟩ = some (.int .i64 (last : Int)) := by
  obtain ⟨m1, m2, m3, m4, m5, m6, m7, m8, m9, m10, m11, m12, m13⟩ := h.ne
  have e : w'.heap[gl]? = w.heap[gl]? := hk.block gl h.llt (by unfold Turn; omega)
  refine ⟨?_, ?_⟩
  · rw [World.cell?_of_block (w := w) (a := ⟨gl, on * 2, none⟩) e]; exact h.lcell0
  · rw [World.cell?_of_block (w := w) (a := ⟨gl, on * 2 + 1, none⟩) e]; exact h.lcell1

theorem O9.kt {kind onv fr to : Int} {ba : Option Addr} {len bc : Nat} {num : Int} (h : O9 w g9 kind onv fr to ba len bc num) (hT : ¬ T6 p m p' m' gd gl g9) (hk : Kp (Turn p m) w w') : O9 w' g9 kind onv fr to ba len bc num :=
  h.kp hk (fun e => hT (by rcases e with e | e <;> simp [T6, e]))

/-- Blocks of noughts that are filled leave the side as it is. -/
theorem Side.news {T X : Nat → Prop} {wB wS : World} {W last1 n1 c1 : Nat} {a1 : Option Addr} {L1 R1 : List Pk} (h : Side T wB p m L1 last1 a1 n1 c1 R1) (hk : Kp X wB wS) (hX : ∀ k, X k → ZB wB k ∧ W ≤ k) (hW : ∀ q ∈ L1, ∀ x, q.a = some x → x.block < W) (hp : p < W) (hm : m < W) : Side T wS p m L1 last1 a1 n1 c1 R1 :=
  h.zb (E := fun _ => False) hk (fun k _ e => .inr (.inl (hX k e).1)) (fun _ _ e => e) (fun _ _ _ _ e => e)
    (h.net.kp hk (fun e => by have := (hX p e).2; omega) (fun e => by have := (hX m e).2; omega) (fun q hq x hx e => by have := (hX _ e).2; have := hW q hq x hx; omega))

/-- The document's net is put into its place. -/
theorem View.fin (h : View base gd gl on w p m L last a n c R p' m' L' last' a' n' c' R') {wA wB wS : World} {X : Nat → Prop} {last1 n1 c1 : Nat} {a1 : Option Addr} {L1 R1 : List Pk} (hkA : Kp (Turn p m) w wA) (bB : Below wA.heap.size wA wB) (hkS : Kp X wB wS) (hX : ∀ k, X k → w.heap.size ≤ k) (hbw : base ≤ w.heap.size) (hS : Side (T6 p m p' m' gd gl) wS p m L1 last1 a1 n1 c1 R1) :
    View base gd gl on ((wS.setCell ⟨gl, on * 2, none⟩ (.slice a1 n1 c1)).setCell ⟨gl, on * 2 + 1, none⟩ (.int .i64 (last1 : Int))) p m L1 last1 a1 n1 c1 R1 p' m' L' last' a' n' c' R' ∧ Below base w ((wS.setCell ⟨gl, on * 2, none⟩ (.slice a1 n1 c1)).setCell ⟨gl, on * 2 + 1, none⟩ (.int .i64 (last1 : Int))) := by
  obtain ⟨m1, m2, m3, m4, m5, m6, m7, m8, m9, m10, m11, m12, m13⟩ := h.ne
  obtain ⟨s1, s2, s3, s4, s5, s6⟩ := h.bs
  have hl := h.llt
  have sa := hkA.size
  have kE := Kp.setCell (S := fun k => k = gl) (p := ⟨gl, on * 2 + 1, none⟩) (Kp.setCell (S := fun k => k = gl) (p := ⟨gl, on * 2, none⟩) (Kp.refl _ wS) rfl (.slice a1 n1 c1)) rfl (.int .i64 (last1 : Int))
  have hgS : wS.heap[gl]? = some (.cells (arr4 on (.slice a n c) (.int .i64 (last : Int)) (.slice a' n' c') (.int .i64 (last' : Int))) 41 (0, 0)) := by
    rw [hkS.block gl (by have := bB.size; omega) (fun e => by have := hX gl e; omega), bB.block gl (by omega)]
    exact h.gla hkA
  have hall : Kp (fun k => k = p ∨ k = m ∨ k = gl ∨ w.heap.size ≤ k) w ((wS.setCell ⟨gl, on * 2, none⟩ (.slice a1 n1 c1)).setCell ⟨gl, on * 2 + 1, none⟩ (.int .i64 (last1 : Int))) :=
    (((hkA.mono (S' := fun k => k = p ∨ k = m ∨ k = gl ∨ w.heap.size ≤ k) (fun k _ e => by rcases e with e | e <;> simp [e])).then bB).next hkS (fun k _ e => .inr (.inr (.inr (hX k e))))).next kE (fun k _ e => .inr (.inr (.inl e)))
  have hSE : Side (T6 p m p' m' gd gl) ((wS.setCell ⟨gl, on * 2, none⟩ (.slice a1 n1 c1)).setCell ⟨gl, on * 2 + 1, none⟩ (.int .i64 (last1 : Int))) p m L1 last1 a1 n1 c1 R1 :=
    hS.zb (E := fun _ => False) kE (fun k _ e => .inl (by simp [T6, e])) (fun _ _ e => e) (fun _ _ _ _ e => e)
      (hS.net.kp kE (fun e => m6 e) (fun e => m8 e) (fun q hq x hx e => hS.offL q hq x hx (by simp [T6, e])))
  refine ⟨h.step hall hSE (lb_set h.on2 hgS _ _), hall.below (fun k e => ?_) hbw⟩
  rcases e with e | e | e | e <;> omega
end

/-- What the document tells of Deliver, slot by slot. -/
def R20 (T : Nat → Prop) (W0 W1 p m : Nat) (L1 : List Pk) (last : Nat) (X0 X1 X2 : Int) (B : List UInt8) (ec : Int) (q : Nat) (v : Value) (w : World) : Prop :=
  if q = 5 ∨ q = 6 then ∃ a1 n1 c1 R1 b2 c2, v = .tuple #[.agg #[.slice a1 n1 c1, .int .i64 (last : Int)], .agg #[.int .i64 X0, .int .i64 X1, .int .i64 X2, .slice b2 B.length c2], .int .i64 ec] ∧ Side T w p m L1 last a1 n1 c1 R1 ∧ At w b2 B ∧ (∀ x, b2 = some x → x.block < W0 ∧ ¬ T x.block)
  else if q = 7 then ∃ a1 n1 c1 R1, v = .agg #[.slice a1 n1 c1, .int .i64 (last : Int)] ∧ Side T w p m L1 last a1 n1 c1 R1
  else if q = 8 then ∃ b2 c2, v = .agg #[.int .i64 X0, .int .i64 X1, .int .i64 X2, .slice b2 B.length c2] ∧ At w b2 B ∧ (∀ x, b2 = some x → x.block < W0 ∧ ¬ T x.block)
  else if q = 9 then v = .int .i64 ec
  else if q = 10 then NewB W1 40 z40 v w
  else NewB W1 31 z31 v w

theorem Side.below {T : Nat → Prop} {w w' : World} {p m last n c : Nat} {a : Option Addr} {L R : List Pk} (h : Side T w p m L last a n c R) (hb : Below w.heap.size w w') : Side T w' p m L last a n c R := h.kp (S := fun _ => False) (Kp.of_below hb) (fun _ _ e => e.elim) (fun e => e) (fun e => e)

theorem R20.below {T : Nat → Prop} {W0 W1 p m : Nat} {L1 : List Pk} {last : Nat} {X0 X1 X2 : Int} {B : List UInt8} {ec : Int} {q : Nat} {v : Value} {w w' : World} (hb : Below w.heap.size w w') (h : R20 T W0 W1 p m L1 last X0 X1 X2 B ec q v w) : R20 T W0 W1 p m L1 last X0 X1 X2 B ec q v w' := by
  unfold R20 at *
  split at h
  · rename_i e; rw [if_pos e]
    obtain ⟨a1, n1, c1, R1, b2, c2, e1, h1, h2, h3⟩ := h
    exact ⟨a1, n1, c1, R1, b2, c2, e1, h1.below hb, h2.below hb, h3⟩
  · rename_i e; rw [if_neg e]
    split at h
    · rename_i e; rw [if_pos e]
      obtain ⟨a1, n1, c1, R1, e1, h1⟩ := h
      exact ⟨a1, n1, c1, R1, e1, h1.below hb⟩
    · rename_i e; rw [if_neg e]
      split at h
      · rename_i e; rw [if_pos e]
        obtain ⟨b2, c2, e1, h2, h3⟩ := h
        exact ⟨b2, c2, e1, h2.below hb, h3⟩
      · rename_i e; rw [if_neg e]
        split at h
        · rename_i e; rw [if_pos e]; exact h
        · rename_i e; rw [if_neg e]
          split at h
          · rename_i e; rw [if_pos e]; exact NewB.below h hb
          · rename_i e; rw [if_neg e]; exact NewB.below h hb

end Go.Proofs.Ytgjjgfppolmkoaa
