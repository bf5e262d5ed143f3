/- SessionOnce, plain: asking, sending, losing. -/
import Derived.Test.YthjggjjocfbjcaaOnceT
namespace Go.Proofs.Ythjggjjocfbjcaa
open Go.RowKit

section
variable {n : Nat} {L : List CV} {A : Nat → AV} {T B : List P3} {R : Nat → List Int} {ctr : Int}

/-- A client asks: eight wait, or a new request. -/
theorem OP.ask (h : OP n L A T B R ctr) (hn : n < 200) (k : Nat) (hk : k < 4) (body : List UInt8) (hb : body.length ≤ 65536) :
    (∃ x r, askP (A k).flat body = (x, r, 7)) ∨ (∃ a2, askP (A k).flat body = (a2, (A k).next, 0) ∧ ∀ x : AV, x.flat = a2 → OP (n + 1) L (upd A k x) T B R ctr ∧ PkOk x.flat (A k).next x.acked ∧ x.id = (k : Int) + 1) := by
  have hc := h.ci k hk
  have hnx := h.next k hk
  rcases hc.asks body hb (show (A k).next < 1000 by omega) with q | ⟨a2, e1, e2, e3, e4, e5⟩
  · exact .inl q
  · right
    refine ⟨a2, e1, fun x hx => ?_⟩
    subst hx
    refine ⟨⟨h.right, h.ids, fun j hj => ?_, fun j hj => ?_, fun y hy => ?_, h.back, ⟨h.cb.1, by have := h.cb.2; omega⟩, h.vals, by have := h.tl; omega, by have := h.bl; omega⟩, e5, e4.aid⟩
    · by_cases e : j = k
      · subst e; rw [upd_same]; exact e4
      · rw [upd_other _ _ e]; exact h.ci j hj
    · by_cases e : j = k
      · subst e
        rw [upd_same]
        have e2' : x.next = (A j).next + 1 := e2
        omega
      · rw [upd_other _ _ e]; have := h.next j hj; omega
    · obtain ⟨j, hj, q1, q2⟩ := h.to y hy
      refine ⟨j, hj, q1, ?_⟩
      by_cases e : j = k
      · subst e
        rw [upd_same]
        exact q2.on (by have e2' : x.flat.2.1 = (A j).flat.2.1 + 1 := e2; omega) (by rw [e3]; exact Int.le_refl _)
      · rw [upd_other _ _ e]; exact q2

/-- A packet more. -/
theorem OP.sent (h : OP n L A T B R ctr) (k : Nat) (hk : k < 4) (r : Int) (hp : PkOk (A k).flat r (A k).acked) (hl : T.length + 1 ≤ 70 + n) : OP n L A (T ++ [((A k).id, r, (A k).acked)]) B R ctr :=
  ⟨h.right, h.ids, h.ci, h.next, fun y hy => by
    rcases List.mem_append.1 hy with q | q
    · exact h.to y q
    · rw [List.mem_singleton.1 q]
      exact ⟨k, hk, (h.ci k hk).aid, hp⟩, h.back, h.cb, h.vals, by simp; omega, h.bl⟩

theorem OP.lessT (h : OP n L A T B R ctr) {T' : List P3} (hs : ∀ x ∈ T', x ∈ T) (hl : T'.length ≤ T.length) : OP n L A T' B R ctr :=
  ⟨h.right, h.ids, h.ci, h.next, fun y hy => h.to y (hs y hy), h.back, h.cb, h.vals, by have := h.tl; omega, h.bl⟩

theorem OP.lessB (h : OP n L A T B R ctr) {B' : List P3} (hs : ∀ x ∈ B', x ∈ B) (hl : B'.length ≤ B.length) : OP n L A T B' R ctr :=
  ⟨h.right, h.ids, h.ci, h.next, h.to, fun y hy => h.back y (hs y hy), h.cb, h.vals, h.tl, by have := h.bl; omega⟩

/-- What waits can be sent again. -/
theorem OP.again (h : OP n L A T B R ctr) (k : Nat) (hk : k < 4) (i : Nat) (hi : i < (A k).ks.length) : PkOk (A k).flat (A k).ks[i].num (A k).acked := by
  have hc := h.ci k hk
  refine hc.send (r := (A k).ks[i].num) ?_
  have hm : (A k).ks[i].flat ∈ (A k).flat.2.2.2 := List.mem_map.2 ⟨_, List.getElem_mem hi, rfl⟩
  have := up_get hc.ask.up hm
  have e : (A k).ks[i].flat.1 = (A k).ks[i].num := rfl
  rw [e] at this
  rw [this]
  rfl
end

theorem cut_mem {α : Type} (X : List α) (j : Nat) : ∀ x ∈ X.take j ++ X.drop (j + 1), x ∈ X := by
  intro x hx
  rcases List.mem_append.1 hx with q | q
  · exact List.mem_of_mem_take q
  · exact List.mem_of_mem_drop q

theorem cut_len {α : Type} (X : List α) (j : Nat) : (X.take j ++ X.drop (j + 1)).length ≤ X.length := by
  simp
  omega

end Go.Proofs.Ythjggjjocfbjcaa
