/- SessionOnce, plain: a request arrives, a reply is taken. -/
import Derived.Test.YthjggjjocfbjcaaOnceP
namespace Go.Proofs.Ythjggjjocfbjcaa

/-- The server hears how far all is answered. -/
theorem CI.look {id : Int} {a : PA} {v : Int × List PK} {D F : Int → Int} (h : CI id a v D F) {r ak : Int} (hp : PkOk a r ak) : CI id a (setC v ak) D F := by
  have hack := ack_low h.ask.up h.ask.most h.ask.next.1
  rw [← h.ask.ack] at hack
  have hn := h.ask.next
  unfold PkOk at hp
  have hf := h.floor
  refine ⟨h.ask, h.aid, h.good.set ak (by omega), ?_, ?_, ?_, h.late, h.same, h.above⟩
  · simp only [setC]; omega
  · intro k hk
    simp only [setC] at hk ⊢
    have h1 := h.kept k (List.mem_filter.1 hk).1
    exact ⟨by have := h1.1; omega, h1.2⟩
  · intro x hx hg
    simp only [setC] at hx hg
    rw [get_filter, if_neg (by omega)] at hg
    exact h.none_ x (by omega) hg

/-- What the server tells. -/
theorem CI.jud {id : Int} {a : PA} {v : Int × List PK} {D F : Int → Int} (h : CI id a v D F) {r ak : Int} (hp : PkOk a r ak) (hv : ak ≤ v.1) :
    (judC v r = (3, []) ∧ F r ≠ 0) ∨ (judC v r = (2, two (D r)) ∧ D r ≠ 0) ∨ (judC v r = (1, []) ∧ D r = 0 ∧ v.1 < r ∧ getG v.2 r = none ∧ v.2.length ≠ 8) := by
  unfold PkOk at hp
  have hf := h.floor
  unfold judC
  by_cases h1 : r ≤ v.1
  · left
    rw [if_pos h1]
    refine ⟨rfl, fun h0 => ?_⟩
    have h2 := (h.late r (by omega) (by omega)).1 h0
    rw [h.ask.settled (by omega)] at h2
    cases h2
  · right
    rw [if_neg h1]
    cases hg : getG v.2 r with
    | some b =>
      left
      have hk := h.kept _ (get_mem hg)
      simp only at hk ⊢
      exact ⟨by rw [hk.2.1], hk.2.2⟩
    | none =>
      right
      simp only
      have h8 : v.2.length ≠ 8 := fun h8 => by
        exact up_full 8 v.1 v.2 h.good.kup h8 (fun k hk => (h.kept k hk).1) r (by omega) (by show r ≤ v.1 + 8; omega) hg
      rw [if_neg h8]
      exact ⟨rfl, h.none_ r (by omega) hg, by omega, by first | exact trivial | rfl, h8⟩

/-- A new one is done. -/
theorem CI.done {id : Int} {a : PA} {v : Int × List PK} {D F : Int → Int} (h : CI id a v D F) {r ak n : Int} (hp : PkOk a r ak) (hv : ak ≤ v.1) (h1 : v.1 < r) (h2 : getG v.2 r = none) (h3 : v.2.length ≠ 8) (h4 : D r = 0) (hn : n ≠ 0) :
    CI id a (v.1, putG v.2 (r, two n)) (fun x => if x = r then n else D x) F := by
  have hN := h.ask.next
  unfold PkOk at hp
  refine ⟨h.ask, h.aid, h.good.more r (two n) ⟨h1, by omega⟩ h2 h3, h.floor, ?_, ?_, h.late, ?_, ?_⟩
  · intro k hk
    rcases mem_put _ _ _ hk with rfl | hk
    · simp only [if_true]
      exact ⟨by omega, trivial, hn⟩
    · have h5 := h.kept k hk
      have h6 : ¬ k.1 = r := fun e => by
        have := up_get h.good.kup hk
        rw [e, h2] at this
        cases this
      simp only [if_neg h6]
      exact h5
  · intro x hx hg
    simp only at hx hg ⊢
    rw [get_put] at hg
    by_cases e : r = x
    · simp only [if_pos e] at hg
      cases hg
    · rw [if_neg e] at hg
      rw [if_neg (fun q => e q.symm)]
      exact h.none_ x hx hg
  · intro x hx
    show F x = if x = r then n else D x
    by_cases e : x = r
    · have := h.same x hx
      rw [e, h4] at this
      rw [e] at hx
      exact absurd this hx
    · rw [if_neg e]
      exact h.same x hx
  · intro x hx
    have := h.above x hx
    show (if x = r then n else D x) = 0 ∧ F x = 0
    rw [if_neg (by omega)]
    exact this

theorem up_filter_ne (r : Int) : ∀ {lo : Int} {l : List PK}, Up lo l → Up lo (l.filter fun k => !(k.1 == r))
  | _, [], _ => trivial
  | lo, y :: t, h => by
    have ih := up_filter_ne r h.2
    by_cases e : y.1 = r
    · rw [List.filter_cons_of_neg (by simp [e])]
      exact ih.le (by have := h.1; omega)
    · rw [List.filter_cons_of_pos (by simp [e])]
      exact ⟨h.1, ih⟩

theorem get_filter_ne (r c : Int) : ∀ (l : List PK), getG (l.filter fun k => !(k.1 == r)) c = if c = r then none else getG l c
  | [] => by simp [getG]
  | y :: t => by
    have ih := get_filter_ne r c t
    by_cases e : y.1 = r
    · rw [List.filter_cons_of_neg (by simp [e]), ih]
      simp only [getG]
      by_cases e2 : c = r
      · rw [if_pos e2, if_pos e2]
      · rw [if_neg e2, if_neg e2, if_neg (by omega)]
    · rw [List.filter_cons_of_pos (by simp [e])]
      simp only [getG]
      by_cases e2 : y.1 = c
      · rw [if_pos e2, if_pos e2, if_neg (by omega)]
      · rw [if_neg e2, if_neg e2, ih]

theorem len_filter_ne (r : Int) (l : List PK) : decide ((l.filter fun k => !(k.1 == r)).length < l.length) = (getG l r).isSome := by
  induction l with
  | nil => simp [getG]
  | cons y t ih =>
    simp only [getG]
    by_cases e : y.1 = r
    · rw [List.filter_cons_of_neg (by simp [e]), if_pos e]
      have := List.length_filter_le (fun k : PK => !(k.1 == r)) t
      simp only [List.length_cons, Option.isSome_some, decide_eq_true_eq]
      omega
    · rw [List.filter_cons_of_pos (by simp [e]), if_neg e, ← ih]
      simp only [List.length_cons, Nat.add_lt_add_iff_right]

theorem ack_more {next r : Int} {l : List PK} (hu : Up 0 l) (hm : ∀ k ∈ l, k.1 ≤ next - 1) : ackP next (l.map (·.1)) ≤ ackP next ((l.filter fun k => !(k.1 == r)).map (·.1)) := by
  cases l with
  | nil => simp
  | cons y t =>
    by_cases e : y.1 = r
    · rw [List.filter_cons_of_neg (by simp [e])]
      cases hf : t.filter fun k => !(k.1 == r) with
      | nil =>
        have := hm y (by simp)
        simp only [List.map_cons, List.map_nil, ackP]
        omega
      | cons z q =>
        have hz : z ∈ t := (List.mem_filter.1 (hf ▸ List.mem_cons_self .. : z ∈ t.filter fun k => !(k.1 == r))).1
        have := Up.mem hu.2 z hz
        simp only [List.map_cons, ackP]
        omega
    · rw [List.filter_cons_of_pos (by simp [e])]
      simp only [List.map_cons, ackP]
      omega

/-- A reply is taken. -/
theorem CI.takes {id : Int} {a : PA} {v : Int × List PK} {D F : Int → Int} (h : CI id a v D F) {r n : Int} (hr : 1 ≤ r) (hD : D r = n) (hn : n ≠ 0) :
    ∃ a2, takeP a r = (a2, decide (F r = 0), 0) ∧ (F r ≠ 0 → F r = n) ∧ a2.2.1 = a.2.1 ∧ a.2.2.1 ≤ a2.2.2.1 ∧ CI id a2 v D (fun x => if x = r then n else F x) := by
  have hx : r < a.2.1 := by
    rcases Int.lt_or_le r a.2.1 with h1 | h1
    · exact h1
    · have := (h.above r h1).1; omega
  have hl := h.late r hr hx
  have hmore := ack_more (r := r) h.ask.up h.ask.most
  rw [← h.ask.ack] at hmore
  have hwas : decide ((a.2.2.2.filter fun k => !(k.1 == r)).length < a.2.2.2.length) = decide (F r = 0) := by
    rw [len_filter_ne]
    cases hg : (getG a.2.2.2 r).isSome with
    | true => rw [hg] at hl; simp [hl.2 rfl]
    | false => rw [hg] at hl; simp only [Bool.false_eq_true, iff_false] at hl; simp [hl]
  have hmost : ∀ k ∈ a.2.2.2.filter fun k => !(k.1 == r), k.1 ≤ a.2.1 - 1 := fun k hk => h.ask.most k (List.mem_filter.1 hk).1
  have he : takeP a r = ((a.1, a.2.1, ackP a.2.1 ((a.2.2.2.filter fun k => !(k.1 == r)).map (·.1)), a.2.2.2.filter fun k => !(k.1 == r)), decide (F r = 0), 0) := by
    unfold takeP
    rw [(askR_iff a).2 h.ask, if_neg (by simp), hwas]
  refine ⟨_, he, fun h0 => by rw [h.same r h0, hD], rfl, hmore, ?_⟩
  refine ⟨⟨h.ask.id, h.ask.next, up_filter_ne r h.ask.up, hmost, rfl, ?_⟩, h.aid, h.good, Int.le_trans h.floor hmore, h.kept, h.none_, ?_, ?_, ?_⟩
  · have := h.ask.win
    show a.2.1 - 1 - ackP a.2.1 _ ≤ 8
    omega
  · intro x h1 h2
    simp only at h2 ⊢
    rw [get_filter_ne]
    by_cases e : x = r
    · simp [e, hn]
    · rw [if_neg e, if_neg e]; exact h.late x h1 h2
  · intro x
    show (if x = r then n else F x) ≠ 0 → (if x = r then n else F x) = D x
    by_cases e : x = r
    · rw [if_pos e, e, hD]; intro _; rfl
    · rw [if_neg e]; exact h.same x
  · intro x h1
    have := h.above x h1
    show D x = 0 ∧ (if x = r then n else F x) = 0
    rw [if_neg (by simp only at h1; omega)]
    exact this

end Go.Proofs.Ythjggjjocfbjcaa
