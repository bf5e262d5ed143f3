/- A row of jobs of the call's own, one of them written over; what holds goes on holding. -/
import Derived.Test.YtphkdjacladcpaaPartsWalk
import Derived.Test.YtphkdjacladcpaaCj
import Derived.Test.YtphkdjacladcpaaPk
import Derived.Test.YtphkdjacladcpaaJy
namespace Go.Proofs.Ytphkdjacladcpaa
open Go.RowKit
set_option linter.unusedVariables false
set_option linter.unusedSimpArgs false

theorem setAll_get : ∀ (vs : List Value) (cur : Array Value) (o i : Nat), o + vs.length ≤ cur.size → (setAll cur o vs)[i]? = if o ≤ i ∧ i < o + vs.length then vs[i - o]? else cur[i]?
  | [], cur, o, i, h => by
    rw [if_neg (by simp only [List.length_nil]; omega)]; rfl
  | v :: vs, cur, o, i, h => by
    simp only [List.length_cons] at h ⊢
    unfold setAll
    rw [setAll_get vs _ (o + 1) i (by simp; omega)]
    by_cases h1 : o + 1 ≤ i ∧ i < o + 1 + vs.length
    · rw [if_pos h1, if_pos (by omega), show i - o = (i - (o + 1)) + 1 by omega, List.getElem?_cons_succ]
    · rw [if_neg h1]
      by_cases h2 : i = o
      · subst h2
        rw [if_pos (by omega), Nat.sub_self, List.getElem?_cons_zero, Array.getElem?_setIfInBounds, if_pos rfl, if_pos (by omega)]
      · rw [if_neg (by omega)]
        rw [Array.getElem?_setIfInBounds, if_neg (fun e => h2 e.symm)]
theorem flat_put (M : List Job) (k : Nat) (J : Job) (hk : k < M.length) : setAll (M.flatMap jc).toArray (k * 17) (jc J) = ((M.set k J).flatMap jc).toArray := by
  have hlen : ∀ L : List Job, (L.flatMap jc).length = L.length * 17 := fun L => flat_len jc 17 jc_len L
  apply Array.ext_getElem?
  intro i
  rw [setAll_get _ _ _ _ (by rw [jc_len]; simp [hlen]; omega), jc_len, List.getElem?_toArray, List.getElem?_toArray]
  by_cases hi : i < M.length * 17
  · have hq : i / 17 < M.length := by omega
    have e1 : i = (i / 17) * 17 + i % 17 := by omega
    have g1 := flat_get jc 17 jc_len (M.set k J) (i / 17) (i % 17) (by simpa using hq) (by omega)
    have g2 := flat_get jc 17 jc_len M (i / 17) (i % 17) hq (by omega)
    rw [← e1] at g1 g2
    rw [g1, g2, List.getElem_set]
    by_cases h1 : k = i / 17
    · rw [if_pos (by omega), if_pos h1, show i - k * 17 = i % 17 by omega]
    · rw [if_neg (by omega), if_neg h1]
  · rw [if_neg (by omega), List.getElem?_eq_none (by rw [hlen]; omega), List.getElem?_eq_none (by rw [hlen, List.length_set]; omega)]

theorem setCells_owns {base e size n c g : Nat} : ∀ (vs : List Value) (o : Nat) (xs : List Value) (w : World), w.ownsRow base e size (.slice (some ⟨g, 0, none⟩) n c) n xs → o + vs.length ≤ n * size →
    (w.setCells g o vs).ownsRow base e size (.slice (some ⟨g, 0, none⟩) n c) n (setAll xs.toArray o vs).toList
  | [], o, xs, w, h, _ => h
  | v :: r, o, xs, w, h, hl => by
    rw [List.length_cons] at hl
    have h2 := owns_put h (i := o) (by omega) v
    show ((w.setCell ⟨g, o, none⟩ v).setCells g (o + 1) r).ownsRow _ _ _ _ _ _
    have h3 := setCells_owns r (o + 1) (xs.set o v) _ h2 (by omega)
    have e : (xs.set o v).toArray = xs.toArray.setIfInBounds o v := by simp
    rw [e] at h3
    exact h3
theorem setCells_kp {g : Nat} : ∀ (vs : List Value) (o : Nat) (w : World), Kp (fun i => i = g) w (w.setCells g o vs)
  | [], o, w => Kp.refl _ _
  | v :: r, o, w => by
    show Kp _ w ((w.setCell ⟨g, o, none⟩ v).setCells g (o + 1) r)
    exact (Kp.setCell (S := fun i => i = g) (p := ⟨g, o, none⟩) (Kp.refl _ _) rfl v).trans (setCells_kp r (o + 1) _)

theorem JO.put {w : World} {base n c g k : Nat} {M : List (Job × List Dp)} (h : JO w base (.slice (some ⟨g, 0, none⟩) n c) M) (hn : M.length = n) (hk : k < n) (J : Job) (D : List Dp) (hx : DOwn w base (.slice J.s.da J.s.dn J.s.dc) D) (hoff : ∀ y, J.s.da = some y → y.block ≠ g) :
    JO (w.setCells g (k * 17) (jc J)) base (.slice (some ⟨g, 0, none⟩) n c) (M.set k (J, D)) := by
  have kp := setCells_kp (g := g) (jc J) (k * 17) w
  have hl : (M.map (·.1)).length = n := by rw [List.length_map]; exact hn
  have all : ∀ z ∈ M.set k (J, D), DOwn w base (.slice z.1.s.da z.1.s.dn z.1.s.dc) z.2 ∧ (∀ y, z.1.s.da = some y → y.block ≠ g) := by
    intro z hz
    rcases List.mem_or_eq_of_mem_set hz with h1 | h1
    · exact ⟨h.dep z h1, fun y hy he => h.off z h1 y hy (by rw [← he]; rfl)⟩
    · rw [h1]; exact ⟨hx, hoff⟩
  refine ⟨?_, fun z hz => ?_, fun z hz y hy => ?_⟩
  · have h2 := setCells_owns (jc J) (k * 17) _ w (by have := h.own; rw [hn] at this; exact this) (by rw [jc_len]; omega)
    rw [flat_put _ k J (by omega)] at h2
    rw [List.length_set, hn, List.map_set]
    exact h2
  · obtain ⟨h1, h2⟩ := all z hz
    refine owns_kp h1 kp fun q hq hs => ?_
    subst hs
    cases ha : z.1.s.da with
    | none => rw [ha] at hq; simp [Value.ownBlock] at hq
    | some y =>
      rw [ha, ownBlock_some] at hq
      exact h2 y ha (by simpa using hq)
  · obtain ⟨h1, h2⟩ := all z hz
    intro he
    exact h2 y hy (by simpa [Value.ownBlock] using he.symm)

theorem lk_cons (j : Job) (r : List Job) (id : Int) : lk (j :: r) id = if j.id = id then some j else lk r id := by
  unfold lk
  rw [List.find?_cons]
  by_cases h : j.id = id
  · rw [if_pos h, decide_eq_true h]
  · rw [if_neg h, decide_eq_false h]
theorem lk_set : ∀ {L : List Job} {k : Nat} {J : Job} (hk : k < L.length) (hid : J.id = (jobAt L k).id) (id : Int),
    lk (L.set k J) id = lk L id ∨ (lk L id = some (jobAt L k) ∧ lk (L.set k J) id = some J)
  | [], k, J, hk, _, _ => by cases hk
  | j :: r, 0, J, hk, hd, id => by
    have e : jobAt (j :: r) 0 = j := rfl
    rw [e] at hd ⊢
    rw [List.set_cons_zero, lk_cons, lk_cons, hd]
    by_cases h : j.id = id
    · rw [if_pos h, if_pos h]; exact .inr ⟨rfl, rfl⟩
    · rw [if_neg h, if_neg h]; exact .inl rfl
  | j :: r, k + 1, J, hk, hd, id => by
    have e : jobAt (j :: r) (k + 1) = jobAt r k := rfl
    rw [e] at hd ⊢
    have ih := lk_set (L := r) (k := k) (J := J) (by simpa using hk) hd id
    rw [List.set_cons_succ, lk_cons, lk_cons]
    by_cases h : j.id = id
    · rw [if_pos h, if_pos h]; exact .inl rfl
    · rw [if_neg h, if_neg h]; exact ih

theorem fate_set {L : List Job} {k : Nat} {J : Job} (hk : k < L.length) (hid : J.id = (jobAt L k).id) (ho : overB (jobAt L k).st = false) (d : Dp) : (fate d L = 1 → fate d (L.set k J) = 1) ∧ (fate d L = 2 → fate d (L.set k J) = 2) := by
  unfold fate
  rcases lk_set hk hid d.2 with h | ⟨h1, h2⟩
  · rw [h]; exact ⟨id, id⟩
  · rw [h1, h2]
    unfold fateJ
    dsimp only
    cases kindB d.1 with
    | false => simp
    | true => rw [ho]; simp
theorem holds_set {D : List Dp} {L : List Job} {k : Nat} {J : Job} (hk : k < L.length) (hid : J.id = (jobAt L k).id) (ho : overB (jobAt L k).st = false) (h : holdsP D L = true) : holdsP D (L.set k J) = true :=
  holds_all.2 fun d hd => (fate_set hk hid ho d).1 (holds_all.1 h d hd)
theorem never_set {D : List Dp} {L : List Job} {k : Nat} {J : Job} (hk : k < L.length) (hid : J.id = (jobAt L k).id) (ho : overB (jobAt L k).st = false) (h : neverP D L = true) : neverP D (L.set k J) = true := by
  obtain ⟨d, hd, h1⟩ := never_one.1 h
  exact never_one.2 ⟨d, hd, (fate_set hk hid ho d).2 h1⟩
theorem begin_open {j : Job} {on now : Int} (h : beginE j on now = 0) : overB j.st = false := by
  rw [(begin_zero h).2.2.2.2]; rfl
theorem fin_open {j : Job} {s now : Int} (h : finE j s now = 0) : overB j.st = false := by
  have h2 := (fin_zero h).2.2.2.2
  rw [fol_iff] at h2
  rw [Bool.eq_false_iff]
  intro h3
  rw [over_iff] at h3
  omega

end Go.Proofs.Ytphkdjacladcpaa
