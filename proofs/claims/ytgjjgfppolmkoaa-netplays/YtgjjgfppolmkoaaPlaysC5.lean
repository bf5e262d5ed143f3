/- NetPlays: Copy. -/
import Derived.Test.YtgjjgfppolmkoaaPlaysC3
namespace Go.Proofs.Ytgjjgfppolmkoaa
open Go.RowKit Go.Maps

section
variable {base gd gl on : Nat} {w : World} {p m : Nat} {L : List Pk} {last : Nat} {a : Option Addr} {n c : Nat} {R : List Pk} {p' m' : Nat} {L' : List Pk} {last' : Nat} {a' : Option Addr} {n' c' : Nat} {R' : List Pk}

/-- The other side becomes a copy of the one that is seen. -/
theorem View.copied (h : View base gd gl on w p m L last a n c R p' m' L' last' a' n' c' R') {w8 : World} {p2 m2 : Nat} (hb : Below w.heap.size w w8) (hp : w.heap.size ≤ p2) (hm : w.heap.size ≤ m2) (hN : NAt w8 p2 m2 L last) (hbw : base ≤ w.heap.size) :
    View base gd gl on (((w8.setCell ⟨gd, 1 - on, none⟩ (.pointer (some ⟨p2, 0, none⟩))).setCell ⟨gl, (1 - on) * 2, none⟩ (.slice a n c)).setCell ⟨gl, (1 - on) * 2 + 1, none⟩ (.int .i64 (last : Int))) p m L last a n c R p2 m2 L last a n c R ∧ Below base w (((w8.setCell ⟨gd, 1 - on, none⟩ (.pointer (some ⟨p2, 0, none⟩))).setCell ⟨gl, (1 - on) * 2, none⟩ (.slice a n c)).setCell ⟨gl, (1 - on) * 2 + 1, none⟩ (.int .i64 (last : Int))) := by
  obtain ⟨m1, m2', m3, m4, m5, m6, m7, m8, m9, m10, m11, m12, m13⟩ := h.ne
  obtain ⟨s1, s2, s3, s4, s5, s6⟩ := h.bs
  have hon := h.on2
  have l1 := h.dlt
  have l2 := h.llt
  have l3 := h.sd.net.lt
  have l4 := h.sd.net.own.lt
  have hs := hb.size
  have kE := Kp.setCell (S := fun k => k = gd ∨ k = gl) (p := ⟨gl, (1 - on) * 2 + 1, none⟩) (Kp.setCell (S := fun k => k = gd ∨ k = gl) (p := ⟨gl, (1 - on) * 2, none⟩) (Kp.setCell (S := fun k => k = gd ∨ k = gl) (p := ⟨gd, 1 - on, none⟩) (Kp.refl _ w8) (.inl rfl) (.pointer (some ⟨p2, 0, none⟩))) (.inr rfl) (.slice a n c)) (.inr rfl) (.int .i64 (last : Int))
  have hT : ∀ k, k < w.heap.size → T6 p m p2 m2 gd gl k → T6 p m p' m' gd gl k := fun k hk e => by
    rcases e with e | e | e | e | e | e
    · exact .inl e
    · exact .inr (.inl e)
    · omega
    · omega
    · exact .inr (.inr (.inr (.inr (.inl e))))
    · exact .inr (.inr (.inr (.inr (.inr e))))
  have hsd8 : Side (T6 p m p2 m2 gd gl) w8 p m L last a n c R := (h.sd.other hT).below hb
  have offL : ∀ q ∈ L, ∀ x, q.a = some x → ¬ (x.block = gd ∨ x.block = gl) := fun q hq x hx e => h.sd.offL q hq x hx (by rcases e with e | e <;> simp [T6, e])
  have hso8 : Side (T6 p m p2 m2 gd gl) w8 p2 m2 L last a n c R := ⟨hN, hsd8.rat, hsd8.Rl, hsd8.cap, hsd8.le, hsd8.same, hsd8.offL, hsd8.offA, hsd8.offR⟩
  have hd8 : w8.heap[gd]? = some (.cells (arr2 on (ptr p) (ptr p')) 38 (0, 0)) := (hb.block gd l1).trans h.db
  have hl8 : w8.heap[gl]? = some (.cells (arr4 on (.slice a n c) (.int .i64 (last : Int)) (.slice a' n' c') (.int .i64 (last' : Int))) 41 (0, 0)) := (hb.block gl l2).trans h.lb
  refine ⟨⟨hon, ?_, ?_, ?_, ?_, ?_, ?_⟩, ?_⟩
  · rw [set_other m13, set_other m13, set_heap hd8]
    rcases (show on = 0 ∨ on = 1 by omega) with rfl | rfl <;> rfl
  · have h0 : (w8.setCell ⟨gd, 1 - on, none⟩ (.pointer (some ⟨p2, 0, none⟩))).heap[gl]? = some (.cells (arr4 on (.slice a n c) (.int .i64 (last : Int)) (.slice a' n' c') (.int .i64 (last' : Int))) 41 (0, 0)) := by
      rw [set_other (fun e => m13 e.symm)]; exact hl8
    rw [set_heap (set_heap h0 _) _]
    rcases (show on = 0 ∨ on = 1 by omega) with rfl | rfl <;> rfl
  · refine hsd8.zb (E := fun _ => False) kE (fun k _ e => .inl ?_) (fun _ _ e => e) (fun _ _ _ _ e => e) (hsd8.net.kp kE (by omega) (by omega) offL)
    rcases e with e | e <;> simp [T6, e]
  · refine hso8.zb (E := fun _ => False) kE (fun k _ e => .inl ?_) (fun _ _ e => e) (fun _ _ _ _ e => e) (hso8.net.kp kE (by omega) (by omega) offL)
    rcases e with e | e <;> simp [T6, e]
  · refine ⟨by omega, by omega, by omega, by omega, m5, m6, m7, m8, by omega, by omega, by omega, by omega, m13⟩
  · exact ⟨s1, s2, by omega, by omega, s5, s6⟩
  · have hk : Kp (fun k => k = gd ∨ k = gl) w _ := (Kp.of_below hb).trans kE
    exact hk.below (fun k e => by rcases e with e | e <;> omega) hbw
end
end Go.Proofs.Ytgjjgfppolmkoaa
