/- NetPlays: Send: the bytes that were lent. -/
import Derived.Test.YtgjjgfppolmkoaaPlaysC3
namespace Go.Proofs.Ytgjjgfppolmkoaa
open Go.RowKit Go.Maps

theorem At.pre {w : World} {a : Option Addr} {l m : List UInt8} (h : At w a (l ++ m)) : At w a l := by
  intro hl
  obtain ⟨b, o, e, hc⟩ := h (by simp [hl])
  refine ⟨b, o, e, fun i hi => ?_⟩
  rw [hc i (by rw [List.length_append]; omega), List.getElem_append_left hi]

theorem Off.mono {W0 W1 W2 : Nat} {a1 : Option Addr} {R1 : List Pk} (h : Off W0 W1 a1 R1) (hle : W2 ≤ W1) : Off W0 W2 a1 R1 :=
  ⟨fun x hx => (h.a x hx).imp id (fun e => Nat.le_trans hle e), fun q hq x hx => (h.r q hq x hx).imp id (fun e => Nat.le_trans hle e)⟩

/-- Behind the program's Send. -/
def SA (w w2 : World) (p m : Nat) (SO : World → List Pk → Prop) (last1 : Nat) (w' : World) : Prop :=
  ∃ ws L1, Below w2.heap.size w2 ws ∧ SO ws L1 ∧ NAt w' p m L1 last1 ∧ (∀ q ∈ L1, ∀ x, q.a = some x → x.block < w.heap.size ∨ ws.heap.size ≤ x.block) ∧ Kp (Turn p m) w2 w' ∧ ws.heap.size ≤ w'.heap.size

theorem sba {w w2 w' : World} {p m last1 : Nat} {SO : World → List Pk → Prop} (h : TB w2 w' ∨ SA w w2 p m SO last1 w') : Kp (Turn p m) w2 w' := by
  rcases h with h | ⟨_, _, _, _, _, _, h, _⟩
  · exact Kp.of_below h
  · exact h

section
variable {base gd gl on : Nat} {w : World} {p m : Nat} {L : List Pk} {last : Nat} {a : Option Addr} {n c : Nat} {R : List Pk} {p' m' : Nat} {L' : List Pk} {last' : Nat} {a' : Option Addr} {n' c' : Nat} {R' : List Pk}

/-- The bytes that were lent are written over. -/
theorem View.over (h : View base gd gl on w p m L last a n c R p' m' L' last' a' n' c' R') {wE wO : World} {gi last1 n1 c1 : Nat} {a1 : Option Addr} {L1 R1 : List Pk} (hE : View base gd gl on wE p m L1 last1 a1 n1 c1 R1 p' m' L' last' a' n' c' R') (hk : Kp (fun k => k = gi) wE wO) (hgi : w.heap.size ≤ gi) (hL1 : ∀ q ∈ L1, ∀ x, q.a = some x → ¬ x.block = gi) (ha1 : ∀ x, a1 = some x → ¬ x.block = gi) (hR1 : ∀ q ∈ R1, ∀ x, q.a = some x → ¬ x.block = gi) :
    View base gd gl on wO p m L1 last1 a1 n1 c1 R1 p' m' L' last' a' n' c' R' := by
  have l1 := h.dlt
  have l2 := h.llt
  have l3 := h.sd.net.lt
  have l4 := h.sd.net.own.lt
  have l5 := h.so.net.lt
  have l6 := h.so.net.own.lt
  refine ⟨hE.on2, (hk.block gd hE.dlt (by omega)).trans hE.db, (hk.block gl hE.llt (by omega)).trans hE.lb, ?_, ?_, hE.ne, hE.bs⟩
  · exact hE.sd.zb (E := fun k => k = gi) hk (fun k _ e => .inr (.inr e)) ha1 hR1 (hE.sd.net.kp hk (by omega) (by omega) hL1)
  · exact hE.so.zb (E := fun k => k = gi) hk (fun k _ e => .inr (.inr e)) (fun x hx e => by have := (h.so.offA x hx).2; omega) (fun q hq x hx e => by have := (h.so.offR q hq x hx).2; omega)
      (hE.so.net.kp hk (by omega) (by omega) (fun q hq x hx e => by have := h.so.net.bodies.lt q hq x hx; omega))
end
end Go.Proofs.Ytgjjgfppolmkoaa
