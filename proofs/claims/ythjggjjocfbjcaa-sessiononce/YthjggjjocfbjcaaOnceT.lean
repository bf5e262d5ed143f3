/- SessionOnce, plain: the invariant of the law's world, and its steps. -/
import Derived.Test.YthjggjjocfbjcaaOnceS
namespace Go.Proofs.Ythjggjjocfbjcaa
open Go.RowKit

structure OP (n : Nat) (L : List CV) (A : Nat → AV) (T B : List P3) (R : Nat → List Int) (ctr : Int) : Prop where
  right : RightC (L.map CV.flat)
  ids : ∀ y ∈ L.map CV.flat, y.1 ≤ 4
  ci : ∀ k : Nat, k < 4 → CI ((k : Int) + 1) (A k).flat (curC (L.map CV.flat) ((k : Int) + 1)) (rowF (R k)) (rowF (R (4 + k)))
  next : ∀ k : Nat, k < 4 → (A k).next ≤ 1 + n
  to : ∀ x ∈ T, ∃ k : Nat, k < 4 ∧ x.1 = (k : Int) + 1 ∧ PkOk (A k).flat x.2.1 x.2.2
  back : ∀ x ∈ B, ∃ k : Nat, k < 4 ∧ x.1 = (k : Int) + 1 ∧ 1 ≤ x.2.1 ∧ rowF (R k) x.2.1 = x.2.2 ∧ x.2.2 ≠ 0
  cb : 0 ≤ ctr ∧ ctr ≤ n
  vals : ∀ k : Nat, k < 4 → ∀ r, 0 ≤ rowF (R k) r ∧ rowF (R k) r ≤ ctr
  tl : T.length ≤ 70 + n
  bl : B.length ≤ n

theorem OP.mono {n m : Nat} {L : List CV} {A : Nat → AV} {T B : List P3} {R : Nat → List Int} {ctr : Int} (h : OP n L A T B R ctr) (hm : n ≤ m) : OP m L A T B R ctr :=
  ⟨h.right, h.ids, h.ci, fun k hk => by have := h.next k hk; omega, h.to, h.back, ⟨h.cb.1, by have := h.cb.2; omega⟩, h.vals, by have := h.tl; omega, by have := h.bl; omega⟩

theorem up_len : ∀ {lo hi : Int} {l : List PC}, Up lo l → (∀ y ∈ l, y.1 ≤ hi) → lo ≤ hi → (l.length : Int) ≤ hi - lo
  | lo, hi, [], _, _, h => by simp; omega
  | lo, hi, y :: t, hu, hm, h => by
    have h1 := hu.1
    have h2 := hm y (by simp)
    have := up_len hu.2 (fun z hz => hm z (by simp [hz])) h2
    simp only [List.length_cons]
    omega

theorem cur_put (l : List PC) (c d : Int) (v : Int × List PK) : curC (putG l (c, v)) d = if c = d then v else curC l d := by
  unfold curC
  rw [get_put]
  by_cases e : c = d
  · rw [if_pos e, if_pos e]; rfl
  · rw [if_neg e, if_neg e]

section
variable {n : Nat} {L : List CV} {A : Nat → AV} {T B : List P3} {R : Nat → List Int} {ctr : Int}

theorem OP.room (h : OP n L A T B R ctr) : (L.map CV.flat).length < 16 := by
  have := up_len h.right.up h.ids (by omega)
  omega

/-- A row that turns at r. -/
theorem row_upd (hR : ∀ i, i < 8 → (R i).length = 250) (i : Nat) (hi : i < 8) (r m : Int) (h0 : 0 ≤ r) (h1 : r < 250) (j : Nat) : rowF (upd R i ((R i).set r.toNat m) j) = fun x => if j = i ∧ x = r then m else rowF (R j) x := by
  by_cases e : j = i
  · subst e
    rw [upd_same, rowF_set _ _ _ h0 (by rw [hR j hi]; exact h1)]
    funext x
    simp
  · rw [upd_other _ _ e]
    funext x
    simp [e]

/-- A reply is taken. -/
theorem OP.take (h : OP n L A T B R ctr) (hn : n ≤ 200) (hR : ∀ i, i < 8 → (R i).length = 250) (k : Nat) (hk : k < 4) (r m : Int) (h1 : 1 ≤ r) (hD : rowF (R k) r = m) (hm : m ≠ 0) :
    r < 250 ∧ ∃ a2, takeP (A k).flat r = (a2, decide (rowF (R (4 + k)) r = 0), 0) ∧ (rowF (R (4 + k)) r ≠ 0 → rowF (R (4 + k)) r = m) ∧ ∀ x : AV, x.flat = a2 → OP n L (upd A k x) T B (upd R (4 + k) ((R (4 + k)).set r.toNat m)) ctr := by
  have hc := h.ci k hk
  have hr : r < 250 := by
    have h2 := h.next k hk
    rcases Int.lt_or_le r (A k).next with h3 | h3
    · omega
    · have := (hc.above r h3).1; omega
  obtain ⟨a2, e1, e2, e3, e4, e5⟩ := hc.takes h1 hD hm
  refine ⟨hr, a2, e1, e2, fun x hx => ?_⟩
  subst hx
  have hrow := row_upd hR (4 + k) (by omega) r m (by omega) hr
  have hlow : ∀ j, j < 4 → rowF (upd R (4 + k) ((R (4 + k)).set r.toNat m) j) = rowF (R j) := fun j hj => by
    rw [hrow]; funext y; rw [if_neg (by omega)]
  refine ⟨h.right, h.ids, fun j hj => ?_, fun j hj => ?_, fun y hy => ?_, fun y hy => ?_, h.cb, fun j hj q => ?_, h.tl, h.bl⟩
  · rw [hlow j hj]
    by_cases e : j = k
    · subst e
      rw [upd_same, hrow]
      have : (fun y => if 4 + j = 4 + j ∧ y = r then m else rowF (R (4 + j)) y) = fun y => if y = r then m else rowF (R (4 + j)) y := by funext y; simp
      rw [this]
      exact e5
    · rw [upd_other _ _ e, hrow]
      have : (fun y => if 4 + j = 4 + k ∧ y = r then m else rowF (R (4 + j)) y) = rowF (R (4 + j)) := by funext y; rw [if_neg (by omega)]
      rw [this]
      exact h.ci j hj
  · by_cases e : j = k
    · subst e
      rw [upd_same]
      have := h.next j hj
      have e3' : x.next = (A j).next := e3
      omega
    · rw [upd_other _ _ e]; exact h.next j hj
  · obtain ⟨j, hj, q1, q2⟩ := h.to y hy
    refine ⟨j, hj, q1, ?_⟩
    by_cases e : j = k
    · subst e; rw [upd_same]; exact q2.on (by rw [e3]; exact Int.le_refl _) e4
    · rw [upd_other _ _ e]; exact q2
  · obtain ⟨j, hj, q1, q2, q3, q4⟩ := h.back y hy
    exact ⟨j, hj, q1, q2, by rw [hlow j hj]; exact q3, q4⟩
  · rw [hlow j hj]; exact h.vals j hj q

/-- A request comes to the server. -/
theorem OP.look (h : OP n L A T B R ctr) (hn : n ≤ 200) (hR : ∀ i, i < 8 → (R i).length = 250) (k : Nat) (hk : k < 4) (r ak : Int) (hp : PkOk (A k).flat r ak) :
    (1 ≤ r ∧ r < 250) ∧ ∃ l' v rep, lookP (L.map CV.flat) ((k : Int) + 1) r ak = (l', v, rep, 0) ∧ (∀ L' : List CV, L'.map CV.flat = l' → OP n L' A T B R ctr) ∧
      ((v = 3 ∧ rep = [] ∧ rowF (R (4 + k)) r ≠ 0) ∨ (v = 2 ∧ rep = two (rowF (R k) r) ∧ rowF (R k) r ≠ 0) ∨ (v = 1 ∧ rep = [] ∧ rowF (R k) r = 0 ∧ ∃ l2, doneP l' ((k : Int) + 1) r (two (ctr + 1)) = (l2, 0) ∧ ∀ L2 : List CV, L2.map CV.flat = l2 → OP (n + 1) L2 A T B (upd R k ((R k).set r.toNat (ctr + 1))) (ctr + 1))) := by
  have hc := h.ci k hk
  have hnx := h.next k hk
  have hpp := hp
  unfold PkOk at hpp
  have hnx' : (A k).flat.2.1 ≤ 1 + n := hnx
  have hlook := look_eq (L.map CV.flat) ((k : Int) + 1) r ak h.right (by unfold MM; omega) (by unfold MM; omega) (by omega)
  rw [if_pos (.inr h.room)] at hlook
  have hc2 := hc.look hp
  have hj := hc2.jud hp (by simp only [setC]; omega)
  have hR2 := look_right hlook
  have hL : ∀ L' : List CV, L'.map CV.flat = putG (L.map CV.flat) ((k : Int) + 1, setC (curC (L.map CV.flat) ((k : Int) + 1)) ak) → OP n L' A T B R ctr := fun L' hL' => by
    refine ⟨by rw [hL']; exact hR2, fun y hy => ?_, fun j hj => ?_, h.next, h.to, h.back, h.cb, h.vals, h.tl, h.bl⟩
    · rw [hL'] at hy
      rcases mem_put _ _ _ hy with rfl | hy
      · simp only; omega
      · exact h.ids y hy
    · rw [hL', cur_put]
      by_cases e : j = k
      · subst e; rw [if_pos rfl]; exact hc2
      · rw [if_neg (by omega)]; exact h.ci j hj
  refine ⟨by omega, _, _, _, hlook, hL, ?_⟩
  rcases hj with ⟨q1, q2⟩ | ⟨q1, q2⟩ | ⟨q1, q2, q3, q4, q5⟩
  · left; rw [q1]; exact ⟨rfl, rfl, q2⟩
  · right; left; rw [q1]; exact ⟨rfl, rfl, q2⟩
  · right; right
    rw [q1]
    refine ⟨rfl, rfl, q2, ?_⟩
    have hlk : lookP (L.map CV.flat) ((k : Int) + 1) r ak = (putG (L.map CV.flat) ((k : Int) + 1, setC (curC (L.map CV.flat) ((k : Int) + 1)) ak), 1, [], 0) := by rw [hlook, q1]
    obtain ⟨d1, d2⟩ := new_done hlk (two (ctr + 1)) (by simp [two])
    refine ⟨_, d1, fun L2 hL2 => ?_⟩
    have hc3 := hc2.done (n := ctr + 1) hp (by simp only [setC]; omega) q3 q4 q5 q2 (by have := h.cb; omega)
    have hrow := row_upd hR k (by omega) r (ctr + 1) (by omega) (by omega)
    have hhi : ∀ j, j < 4 → rowF (upd R k ((R k).set r.toNat (ctr + 1)) (4 + j)) = rowF (R (4 + j)) := fun j hj => by
      rw [hrow]; funext y; rw [if_neg (by omega)]
    have hcv := h.cb
    refine ⟨by rw [hL2]; exact d2, fun y hy => ?_, fun j hj => ?_, fun j hj => by have := h.next j hj; omega, h.to, fun y hy => ?_, by omega, fun j hj q => ?_, by have := h.tl; omega, by have := h.bl; omega⟩
    · rw [hL2] at hy
      rcases mem_put _ _ _ hy with rfl | hy
      · simp only; omega
      · rcases mem_put _ _ _ hy with rfl | hy
        · simp only; omega
        · exact h.ids y hy
    · rw [hL2, cur_put, hhi j hj]
      by_cases e : j = k
      · subst e
        rw [if_pos rfl, hrow]
        have : (fun y => if j = j ∧ y = r then ctr + 1 else rowF (R j) y) = fun y => if y = r then ctr + 1 else rowF (R j) y := by funext y; simp
        rw [this]
        exact hc3
      · rw [if_neg (by omega), cur_put, if_neg (by omega), hrow]
        have : (fun y => if j = k ∧ y = r then ctr + 1 else rowF (R j) y) = rowF (R j) := by funext y; rw [if_neg (by omega)]
        rw [this]
        exact h.ci j hj
    · obtain ⟨j, hj, p1, p2, p3, p4⟩ := h.back y hy
      refine ⟨j, hj, p1, p2, ?_, p4⟩
      rw [hrow]
      have : ¬ (j = k ∧ y.2.1 = r) := fun e => by
        rw [e.1, e.2, q2] at p3
        omega
      simp only [if_neg this]
      exact p3
    · rw [hrow]
      have := h.vals j hj q
      simp only
      split <;> omega
end

end Go.Proofs.Ythjggjjocfbjcaa
