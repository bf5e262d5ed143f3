/- NetPlays: views, packets and bytes behind what is new. -/
import Derived.Test.YtgjjgfppolmkoaaPlaysC2
import Derived.Test.YtgjjgfppolmkoaaDraw4
namespace Go.Proofs.Ytgjjgfppolmkoaa
open Go.RowKit Go.Maps

theorem View.below {base gd gl on : Nat} {w w' : World} {p m : Nat} {L : List Pk} {last : Nat} {a : Option Addr} {n c : Nat} {R : List Pk} {p' m' : Nat} {L' : List Pk} {last' : Nat} {a' : Option Addr} {n' c' : Nat} {R' : List Pk} (h : View base gd gl on w p m L last a n c R p' m' L' last' a' n' c' R') (hb : Below w.heap.size w w') : View base gd gl on w' p m L last a n c R p' m' L' last' a' n' c' R' :=
  ⟨h.on2, (hb.block gd h.dlt).trans h.db, (hb.block gl h.llt).trans h.lb, h.sd.kp (S := fun _ => False) (Kp.of_below hb) (fun _ _ e => e.elim) (fun e => e) (fun e => e), h.so.kp (S := fun _ => False) (Kp.of_below hb) (fun _ _ e => e.elim) (fun e => e) (fun e => e), h.ne, h.bs⟩


/-- Bytes stay when a block of noughts is filled. -/
theorem At.zb {w w' : World} {g : Nat} {a : Option Addr} {l : List UInt8} (h : At w a l) (hk : Kp (fun k => k = g) w w') (hz : ZB w g) : At w' a l := by
  by_cases hl : l = []
  · rw [hl]; exact at_nil _ _
  · obtain ⟨b, o, e, hc⟩ := h hl
    refine h.kp hk fun x hx hs => ?_
    rw [e] at hx
    cases hx
    have hc0 := hc 0 (List.length_pos_iff.2 hl)
    have hs' : b = g := hs
    rw [hs'] at hc0
    rcases hz.cell hc0 with h2 | h2 <;> cases h2

theorem four_cells (w : World) (h : Nat) (a b c d : Value) : Kp (fun k => k = h) w ((((w.setCell ⟨h, 0, none⟩ a).setCell ⟨h, 1, none⟩ b).setCell ⟨h, 2, none⟩ c).setCell ⟨h, 3, none⟩ d) :=
  ((((Kp.refl (fun k => k = h) w).setCell (p := ⟨h, 0, none⟩) rfl a).setCell (p := ⟨h, 1, none⟩) rfl b).setCell (p := ⟨h, 2, none⟩) rfl c).setCell (p := ⟨h, 3, none⟩) rfl d

theorem four_p {w : World} {h : Nat} (h0 : w.heap[h]? = some (.cells #[.int .i64 0, .int .i64 0, .int .i64 0, .slice none 0 0] 31 (0, 0))) (a b c d : Value) : PBlk ((((w.setCell ⟨h, 0, none⟩ a).setCell ⟨h, 1, none⟩ b).setCell ⟨h, 2, none⟩ c).setCell ⟨h, 3, none⟩ d) h a b c d := by
  unfold PBlk
  rw [set_heap (set_heap (set_heap (set_heap h0 a) b) c) d]
  rfl

theorem PBlk.four {w : World} {g : Nat} {x y z s : Value} (h : PBlk w g x y z s) : w.cell? ⟨g, 0, none⟩ = some x ∧ w.cell? ⟨g, 1, none⟩ = some y ∧ w.cell? ⟨g, 2, none⟩ = some z ∧ w.cell? ⟨g, 3, none⟩ = some s := by
  unfold PBlk at h
  refine ⟨?_, ?_, ?_, ?_⟩ <;> simp [World.cell?, h]

/-- One packet in a literal's block. -/
theorem rat_lit {w w' : World} {X0 X1 X2 : Int} {b : Option Addr} {c : Nat} {B : List UInt8} (hb : Below (w.alloc (.cells #[.int .i64 X0, .int .i64 X1, .int .i64 X2, .slice b B.length c] 31)).heap.size (w.alloc (.cells #[.int .i64 X0, .int .i64 X1, .int .i64 X2, .slice b B.length c] 31)) w') (hat : At w' b B) : RAt w' (some ⟨w.heap.size, 0, none⟩) [⟨X0, X1, X2, b, c, B⟩] := by
  refine ⟨CAt.below (cat_lit w 31 _ _ rfl) hb, fun q hq => ?_⟩
  rw [List.mem_singleton] at hq
  subst hq
  exact hat

end Go.Proofs.Ytgjjgfppolmkoaa
