/- The document's Parse: its plain side. -/
import Derived.Test.YtomdghodbkhkaaaGreatDoorRpc
import Derived.Test.YtomdghodbkhkaaaGreatDoorRun
import Derived.Test.YtomdghodbkhkaaaGreatDoorRct1
import Derived.Test.YtomdghodbkhkaaaGreatDoorPrs
namespace Go.Proofs.YtomdghodbkhkaaaGreatDoor
open Go.RowKit
set_option linter.unusedVariables false
set_option linter.unusedSimpArgs false

theorem cut_no {c : UInt8} : ∀ {l : List UInt8}, (cutB c l).2.2 = false → cutB c l = (l, [], false) ∧ c ∉ l
  | [], _ => ⟨rfl, by simp⟩
  | b :: t, h => by
    by_cases hb : b = c
    · subst hb; simp [cutB] at h
    · simp only [cutB, if_neg hb] at h ⊢
      obtain ⟨h1, h2⟩ := cut_no h
      rw [h1]
      exact ⟨rfl, by simp [h2]; exact fun e => hb e.symm⟩
theorem cut_yes {c : UInt8} : ∀ {l : List UInt8}, (cutB c l).2.2 = true → l = (cutB c l).1 ++ c :: (cutB c l).2.1
  | [], h => by simp [cutB] at h
  | b :: t, h => by
    by_cases hb : b = c
    · subst hb; simp [cutB]
    · simp only [cutB, if_neg hb] at h ⊢
      rw [List.cons_append, ← cut_yes h]
theorem acc_digits : ∀ (l : List UInt8) (n k : Nat), numAcc l n = some k → ∀ b ∈ l, 48 ≤ b.toNat ∧ b.toNat ≤ 57
  | [], n, k, _, b, hb => by cases hb
  | x :: t, n, k, h, b, hb => by
    unfold numAcc at h
    split at h
    · rename_i hd
      rcases List.mem_cons.1 hb with rfl | hb
      · exact hd
      · exact acc_digits t _ k h b hb
    · cases h
theorem num_no {l : List UInt8} {c : UInt8} (h : c ∈ l) (hc : c.toNat < 48 ∨ 57 < c.toNat) : numP l = none := by
  cases e : numP l with
  | none => rfl
  | some k =>
    unfold numP at e
    split at e
    · cases e
    · have := acc_digits l 0 k e c h
      omega
theorem nb_some {l : List UInt8} {n : Nat} (h : numP l = some n) : nbV l = (n : Int) := by unfold nbV; rw [h]
theorem nb_none {l : List UInt8} (h : numP l = none) : nbV l = -1 := by unfold nbV; rw [h]
theorem pcs_one {c : UInt8} {l : List UInt8} (h : (cutB c l).2.2 = false) : pcs c l = [l] := by rw [pcs_cut, (cut_no h).1]; rfl
theorem pcs_two {c : UInt8} {l : List UInt8} (h : (cutB c l).2.2 = true) : pcs c l = (cutB c l).1 :: pcs c (cutB c l).2.1 := by rw [pcs_cut, if_pos h]

/-- What piece answers is the run. -/
theorem piece_run (l : List UInt8) : (pieceV l).2.2.2 = (runP l).isSome ∧ ∀ r, runP l = some r → pieceV l = ((r.1 : Int), (r.2.1 : Int), (r.2.2 : Int), true) := by
  cases hd : (cutB 45 l).2.2 with
  | false =>
    obtain ⟨hc, _⟩ := cut_no hd
    have hp : pcs 45 l = [l] := pcs_one hd
    have h1 : pieceV l = (nbV l, nbV l, 1, decide (0 ≤ nbV l)) := by unfold pieceV; rw [hp]; rfl
    have h2 : runP l = match numP l with | some a => some (a, a, 1) | none => none := by
      unfold runP cut1 cut2
      rw [hc]
      simp only [cutB]
      cases numP l <;> simp
    rw [h1, h2]
    cases e : numP l with
    | none => rw [nb_none e]; exact ⟨rfl, fun r h => by cases h⟩
    | some a =>
      rw [nb_some e]
      refine ⟨by simp, fun r h => ?_⟩
      cases h
      simp
  | true =>
    have hp := pcs_two hd
    obtain ⟨x, hx⟩ : ∃ x, x = (cutB 45 l).1 := ⟨_, rfl⟩
    obtain ⟨y, hy⟩ : ∃ y, y = (cutB 45 l).2.1 := ⟨_, rfl⟩
    rw [← hx, ← hy] at hp
    have hr : runP l = match numP x, numP (cutB 58 y).1, (if (cutB 58 y).2.2 then numP (cutB 58 y).2.1 else some 1) with
      | some a, some b, some s => if a ≤ b ∧ 1 ≤ s then some (a, b, s) else none
      | _, _, _ => none := by
      unfold runP cut1 cut2
      rw [← hx, ← hy, hd]
      rfl
    cases hd2 : (cutB 45 y).2.2 with
    | true =>
      -- two dashes
      have hp2 := pcs_two hd2
      have hl : 2 < (pcs 45 l).length := by
        rw [hp, hp2]
        have := List.length_pos_iff.2 (pcs_ne 45 (cutB 45 y).2.1)
        simp only [List.length_cons]
        omega
      have h1 : pieceV l = (0, 0, 0, false) := by
        unfold pieceV
        simp only
        rw [if_neg (by omega), if_pos hl]
      have hm : (45 : UInt8) ∈ y := by rw [cut_yes hd2]; simp
      have h2 : runP l = none := by
        rw [hr]
        cases hc : (cutB 58 y).2.2 with
        | false =>
          rw [(cut_no hc).1]
          rw [num_no hm (by decide)]
          cases numP x <;> rfl
        | true =>
          rw [cut_yes hc] at hm
          rcases List.mem_append.1 hm with hm | hm
          · rw [num_no hm (by decide)]
            cases numP x <;> rfl
          · rcases List.mem_cons.1 hm with hm | hm
            · exact absurd hm (by decide)
            · rw [if_pos rfl, num_no hm (by decide)]
              cases numP x <;> cases numP (cutB 58 y).1 <;> rfl
      rw [h1, h2]
      exact ⟨rfl, fun r h => by cases h⟩
    | false =>
      have hp2 : pcs 45 l = [x, y] := by rw [hp, pcs_one hd2]
      have h1 : pieceV l = (nbV x, nbV ((pcs 58 y).getD 0 []), (if (pcs 58 y).length = 2 then nbV ((pcs 58 y).getD 1 []) else 1), decide ((pcs 58 y).length ≤ 2) && decide (0 ≤ nbV x) && decide (nbV x ≤ nbV ((pcs 58 y).getD 0 [])) && decide (1 ≤ (if (pcs 58 y).length = 2 then nbV ((pcs 58 y).getD 1 []) else 1))) := by
        unfold pieceV
        rw [hp2]
        rfl
      cases hc : (cutB 58 y).2.2 with
      | false =>
        have hq := pcs_one hc
        rw [hc, (cut_no hc).1] at hr
        rw [hq] at h1
        simp only [List.length_singleton, List.getD_cons_zero] at h1
        rw [h1, hr]
        cases e1 : numP x with
        | none => rw [nb_none e1]; exact ⟨by simp, fun r h => by cases h⟩
        | some a =>
          cases e2 : numP y with
          | none => rw [nb_none e2, nb_some e1]; exact ⟨by simp; omega, fun r h => by cases h⟩
          | some b =>
            rw [nb_some e1, nb_some e2]
            by_cases hab : a ≤ b
            · simp only [Bool.false_eq_true, if_false, hab, Nat.le_refl, and_self, if_true]
              refine ⟨by simp; omega, fun r h => ?_⟩
              cases h
              simp; omega
            · simp only [Bool.false_eq_true, if_false, hab, false_and]
              refine ⟨by simp; omega, fun r h => by cases h⟩
      | true =>
        have hq := pcs_two hc
        rw [hc] at hr
        simp only [if_true] at hr
        obtain ⟨z, hz⟩ : ∃ z, z = (cutB 58 y).1 := ⟨_, rfl⟩
        obtain ⟨u, hu⟩ : ∃ u, u = (cutB 58 y).2.1 := ⟨_, rfl⟩
        rw [← hz, ← hu] at hr hq
        cases hc2 : (cutB 58 u).2.2 with
        | true =>
          have hl : 2 < (pcs 58 y).length := by
            rw [hq, pcs_two hc2]
            have := List.length_pos_iff.2 (pcs_ne 58 (cutB 58 u).2.1)
            simp only [List.length_cons]
            omega
          have hm : (58 : UInt8) ∈ u := by rw [cut_yes hc2]; simp
          have h2 : runP l = none := by
            rw [hr, num_no hm (by decide)]
            cases numP x <;> cases numP z <;> rfl
          rw [h1, h2]
          refine ⟨?_, fun r h => by cases h⟩
          simp only [Option.isSome_none]
          rw [decide_eq_false (by omega : ¬ (pcs 58 y).length ≤ 2)]
          simp
        | false =>
          rw [pcs_one hc2] at hq
          rw [hq] at h1
          simp only [List.length_cons, List.length_nil, List.getD_cons_zero, List.getD_cons_succ] at h1
          rw [h1, hr]
          cases e1 : numP x with
          | none => rw [nb_none e1]; exact ⟨by simp, fun r h => by cases h⟩
          | some a =>
            cases e2 : numP z with
            | none => rw [nb_none e2, nb_some e1]; exact ⟨by simp; omega, fun r h => by cases h⟩
            | some b =>
              cases e3 : numP u with
              | none => rw [nb_none e3]; exact ⟨by simp, fun r h => by cases h⟩
              | some s =>
                rw [nb_some e1, nb_some e2, nb_some e3]
                by_cases hab : a ≤ b ∧ 1 ≤ s
                · simp only [hab, and_self, if_true]
                  refine ⟨by simp; omega, fun r h => ?_⟩
                  cases h
                  simp; omega
                · simp only [hab, if_false]
                  refine ⟨by simp; omega, fun r h => by cases h⟩

/-- n put in at the place k. -/
def insAt (L : List Nat) (n k : Nat) : List Nat := L.take k ++ n :: L.drop k
theorem insAt_len (L : List Nat) (n k : Nat) (h : k ≤ L.length) : (insAt L n k).length = L.length + 1 := by unfold insAt; simp; omega
theorem insAt_end (L : List Nat) (n : Nat) : insAt L n L.length = L ++ [n] := by unfold insAt; simp
theorem insAt_perm (L : List Nat) (n k : Nat) : (insAt L n k).Perm (n :: L) := by
  unfold insAt
  refine List.perm_middle.trans ?_
  rw [List.take_append_drop]
theorem insAt_at {L : List Nat} {n k : Nat} (h : k ≤ L.length) : (insAt L n k).getD k 0 = n := by
  unfold insAt
  rw [List.getD_eq_getElem?_getD, List.getElem?_append_right (by simp; omega)]
  simp [h]
theorem insAt_before {L : List Nat} {n k : Nat} (h : k + 1 ≤ L.length) : (insAt L n (k + 1)).getD k 0 = L.getD k 0 := by
  unfold insAt
  rw [List.getD_eq_getElem?_getD, List.getElem?_append_left (by simp; omega), List.getD_eq_getElem?_getD, List.getElem?_take, if_pos (by omega)]
theorem insAt_swap {L : List Nat} {n k : Nat} (h : k + 1 ≤ L.length) : ((insAt L n (k + 1)).set (k + 1) (L.getD k 0)).set k n = insAt L n k := by
  apply List.ext_getElem?
  intro i
  have hl := insAt_len L n (k + 1) h
  have hl2 := insAt_len L n k (by omega)
  rw [List.getElem?_set, List.getElem?_set, List.length_set, hl]
  have g : ∀ q, q ≤ L.length → (insAt L n q)[i]? = if i < q then L[i]? else if i = q then some n else L[i - 1]? := by
    intro q hq
    unfold insAt
    by_cases h1 : i < q
    · rw [if_pos h1, List.getElem?_append_left (by simp; omega), List.getElem?_take, if_pos h1]
    · rw [if_neg h1, List.getElem?_append_right (by simp; omega)]
      have e : (L.take q).length = q := by simp; omega
      rw [e]
      by_cases h2 : i = q
      · rw [if_pos h2, h2, Nat.sub_self]; rfl
      · rw [if_neg h2, show i - q = (i - 1 - q) + 1 by omega, List.getElem?_cons_succ, List.getElem?_drop]
        congr 1
        omega
  rw [g (k + 1) h, g k (by omega)]
  by_cases h1 : k = i
  · subst h1
    rw [if_pos rfl, if_pos (by omega), if_neg (by omega), if_pos rfl]
  · rw [if_neg h1]
    by_cases h2 : k + 1 = i
    · subst h2
      rw [if_pos rfl, if_pos (by omega), if_neg (by omega), if_neg (by omega)]
      simp only [Nat.add_sub_cancel]
      rw [List.getD_eq_getElem?_getD, List.getElem?_eq_getElem (by omega)]
      rfl
    · rw [if_neg h2]
      by_cases h3 : i < k
      · rw [if_pos (by omega), if_pos h3]
      · rw [if_neg (by omega), if_neg (by omega), if_neg h3, if_neg (by omega)]
theorem insAt_rise {L : List Nat} {n j : Nat} (hr : Rise L) (hj : j ≤ L.length) (h1 : ∀ m, m < j → L.getD m 0 < n) (h2 : j < L.length → n < L.getD j 0) : Rise (insAt L n j) := by
  unfold insAt Rise
  have hsplit := List.take_append_drop j L
  have hr2 : (L.take j ++ L.drop j).Pairwise (· < ·) := by rw [hsplit]; exact hr
  rw [List.pairwise_append] at hr2 ⊢
  obtain ⟨p1, p2, p3⟩ := hr2
  have htake : ∀ a ∈ L.take j, a < n := fun a ha => by
    obtain ⟨i, hi, rfl⟩ := List.getElem_of_mem ha
    have hi2 : i < j := by rw [List.length_take] at hi; omega
    have := h1 i hi2
    rw [List.getD_eq_getElem?_getD, List.getElem?_eq_getElem (by omega)] at this
    rw [List.getElem_take]
    exact this
  have hdrop : ∀ b ∈ L.drop j, n < b := fun b hb => by
    rcases Nat.lt_or_ge j L.length with hjl | hjl
    · have hn := h2 hjl
      rw [List.getD_eq_getElem?_getD, List.getElem?_eq_getElem hjl] at hn
      rw [List.drop_eq_getElem_cons hjl] at hb p2
      rcases List.mem_cons.1 hb with rfl | hb
      · exact hn
      · rw [List.pairwise_cons] at p2
        exact Nat.lt_trans hn (p2.1 b hb)
    · rw [List.drop_eq_nil_of_le hjl] at hb; cases hb
  refine ⟨p1, List.pairwise_cons.2 ⟨hdrop, p2⟩, fun a ha b hb => ?_⟩
  rcases List.mem_cons.1 hb with rfl | hb
  · exact htake a ha
  · exact p3 a ha b hb

theorem flat_cons (r : Run) (rs : List Run) : flat (r :: rs) = idx r ++ flat rs := by simp [flat]
theorem runs_drop {T : List (List UInt8)} {i : Nat} {r : Run} (hi : i < T.length) (hr : runP (T.getD i []) = some r) : runsP (T.drop i) = r :: runsP (T.drop (i + 1)) := by
  rw [List.drop_eq_getElem_cons hi]
  have e : T.getD i [] = T[i] := by simp [List.getD_eq_getElem?_getD, List.getElem?_eq_getElem hi]
  rw [e] at hr
  unfold runsP
  rw [List.filterMap_cons, hr]
theorem idx_drop2 {r : Run} {k : Nat} (h : k < (r.2.1 - r.1) / r.2.2 + 1) : (idx r).drop k = (r.1 + r.2.2 * k) :: (idx r).drop (k + 1) := by
  have hl : (idx r).length = (r.2.1 - r.1) / r.2.2 + 1 := by simp [idx]
  rw [List.drop_eq_getElem_cons (by omega)]
  simp [idx]
theorem idx_all {r : Run} {k : Nat} (h : k = (r.2.1 - r.1) / r.2.2 + 1) : (idx r).drop k = [] := by
  rw [List.drop_eq_nil_iff]
  simp [idx]; omega
theorem idx_in {r : Run} {k : Nat} (h1 : r.1 ≤ r.2.1) (h3 : 1 ≤ r.2.2) : r.1 + r.2.2 * k ≤ r.2.1 ↔ k < (r.2.1 - r.1) / r.2.2 + 1 := by
  rw [Nat.lt_succ_iff, Nat.le_div_iff_mul_le (by omega), Nat.mul_comm]
  omega

theorem addS_twice {n : Nat} {t m : List Nat} (h : n ∈ m) : addS (n :: t) m = ([], 140) := by rw [addS, if_pos h]
theorem addS_long {n : Nat} {t m : List Nat} (h : n ∉ m) (h2 : 32 ≤ m.length) : addS (n :: t) m = ([], 3) := by rw [addS, if_neg h, if_pos h2]
theorem addS_next {n : Nat} {t m : List Nat} (h : n ∉ m) (h2 : ¬ 32 ≤ m.length) : addS (n :: t) m = addS t (m ++ [n]) := by rw [addS, if_neg h, if_neg h2]
/-- While Parse puts the numbers in: what is added, what is left. -/
structure PI (F : List Nat) (m O rest : List Nat) : Prop where
  eq : addS F [] = addS rest m
  nd : m.Nodup
  len : m.length ≤ 32
  perm : O.Perm m
  rise : Rise O
  le : ∀ x ∈ O, x ≤ 9999
theorem PI.start (F : List Nat) : PI F [] [] F := ⟨rfl, List.nodup_nil, by simp, .refl _, List.Pairwise.nil, fun x h => by cases h⟩
theorem PI.olen {F m O rest : List Nat} (h : PI F m O rest) : O.length = m.length := h.perm.length_eq
theorem PI.next {F m O t : List Nat} {n j : Nat} (h : PI F m O (n :: t)) (hn : n ≤ 9999) (hj : j ≤ O.length) (h1 : ∀ q, q < j → O.getD q 0 < n) (h2 : j < O.length → n < O.getD j 0) (h32 : ¬ 32 ≤ O.length) : PI F (m ++ [n]) (insAt O n j) t := by
  have hr := insAt_rise h.rise hj h1 h2
  have hp := insAt_perm O n j
  have hnm : n ∉ m := by
    intro hm
    have hO : n ∈ O := h.perm.mem_iff.2 hm
    have hnd : (insAt O n j).Nodup := hr.imp fun h => Nat.ne_of_lt h
    have := (hp.nodup_iff).1 hnd
    exact (List.nodup_cons.1 this).1 hO
  have h32m : ¬ 32 ≤ m.length := by rw [← h.olen]; exact h32
  refine ⟨by rw [h.eq, addS_next hnm h32m], ?_, by rw [List.length_append, List.length_singleton]; omega, ?_, hr, fun x hx => ?_⟩
  · rw [List.nodup_append]; exact ⟨h.nd, by simp, fun a ha b hb e => hnm (by simp at hb; rw [← hb, ← e]; exact ha)⟩
  · refine hp.trans ((h.perm.cons n).trans ?_)
    exact (List.perm_append_singleton n m).symm
  · rcases List.mem_cons.1 (hp.mem_iff.1 hx) with rfl | hx
    · exact hn
    · exact h.le x hx
theorem PI.twice {F m O t : List Nat} {n j : Nat} (h : PI F m O (n :: t)) (hj : j < O.length) (he : O.getD j 0 = n) : addS F [] = ([], 140) := by
  have hO : n ∈ O := by
    rw [← he, List.getD_eq_getElem?_getD, List.getElem?_eq_getElem hj]
    exact List.getElem_mem hj
  rw [h.eq, addS_twice (h.perm.mem_iff.1 hO)]
theorem PI.long {F m O t : List Nat} {n j : Nat} (h : PI F m O (n :: t)) (hj : j ≤ O.length) (h1 : ∀ q, q < j → O.getD q 0 < n) (h2 : j < O.length → n < O.getD j 0) (h32 : 32 ≤ O.length) : addS F [] = ([], 3) := by
  have hr := insAt_rise h.rise hj h1 h2
  have hnm : n ∉ m := by
    intro hm
    have hO : n ∈ O := h.perm.mem_iff.2 hm
    have hnd : (insAt O n j).Nodup := hr.imp fun h => Nat.ne_of_lt h
    have := ((insAt_perm O n j).nodup_iff).1 hnd
    exact (List.nodup_cons.1 this).1 hO
  rw [h.eq, addS_long hnm (by rw [← h.olen]; exact h32)]
theorem PI.done {F m O : List Nat} (h : PI F m O []) : (addS F []).2 = 0 ∧ sortS (addS F []).1 = O := by
  rw [h.eq]
  exact ⟨rfl, rise_perm (sort_rising m h.nd) h.rise ((sort_perm m).trans h.perm.symm)⟩
end Go.Proofs.YtomdghodbkhkaaaGreatDoor

namespace Go.Proofs.YtomdghodbkhkaaaGreatDoor
open Go.RowKit
set_option linter.unusedVariables false
set_option linter.unusedSimpArgs false

/-- While they are exchanged. -/
structure Wsw (w : World) (base g n c k : Nat) (X Y : Int) (xs : List Value) (L : Nat → Bool) (w1 : World) : Prop where
  own : w1.ownsRow base 3 1 (.slice (some ⟨g, 0, none⟩) n c) n (if L 17 = true then (if L 15 = true then xs.set (k + 1) (.int .i64 X) else xs).set k (.int .i64 Y) else (if L 15 = true then xs.set (k + 1) (.int .i64 X) else xs))
  kp : Kp (fun i => i = g) w w1
section
variable {w w1 : World} {base g n c k : Nat} {X Y : Int} {xs : List Value} {L L2 : Nat → Bool}
theorem Wsw.same (h : Wsw w base g n c k X Y xs L w1) (h1 : L2 15 = L 15) (h2 : L2 17 = L 17) : Wsw w base g n c k X Y xs L2 w1 := ⟨by rw [h1, h2]; exact h.own, h.kp⟩
theorem Wsw.at0 (h : Wsw w base g n c k X Y xs L w1) (h1 : L 15 = false) (h2 : L 17 = false) {m : Nat} {u : Value} (hm : xs[m]? = some u) : w1.cell? ⟨g, m, none⟩ = some u := by
  have h3 := h.own
  rw [h1, h2] at h3
  have := CAt.src (owns_cat h3) m u hm
  cases m with
  | zero => simpa [Addr.add] using this
  | succ q => simpa [Addr.add] using this
theorem Wsw.free (h : Wsw w base g n c k X Y xs L w1) (i : Nat) : w1.frozen? ⟨g, i, none⟩ = false := by
  rcases h.own.2 with ⟨e, _⟩ | ⟨g2, cap, cur, e, _, hg, _⟩
  · cases e
  · simp only [Value.slice.injEq, Option.some.injEq, Addr.mk.injEq] at e
    obtain ⟨⟨rfl, _⟩, _⟩ := e
    simp [World.frozen?, hg]
theorem Wsw.there (h : Wsw w base g n c k X Y xs L w1) {m : Nat} (hm : m < n) : ∃ u, w1.cell? ⟨g, m, none⟩ = some u := by
  have h3 := h.own
  generalize (if L 17 = true then (if L 15 = true then xs.set (k + 1) (.int .i64 X) else xs).set k (.int .i64 Y) else (if L 15 = true then xs.set (k + 1) (.int .i64 X) else xs)) = ys at h3
  have hl := h3.1
  have := CAt.src (owns_cat h3) m _ (List.getElem?_eq_getElem (by omega))
  exact ⟨ys[m]'(by omega), by
    cases m with
    | zero => simpa [Addr.add] using this
    | succ q => simpa [Addr.add] using this⟩
theorem Wsw.put15 (h : Wsw w base g n c k X Y xs L w1) (hL : L 15 = false) (hk : k + 1 < n) (h1 : L2 15 = true) (h2 : L2 17 = L 17) : Wsw w base g n c k X Y xs L2 (w1.setCell ⟨g, k + 1, none⟩ (.int .i64 X)) := by
  refine ⟨?_, Kp.setCell (S := fun i => i = g) (p := ⟨g, k + 1, none⟩) h.kp rfl _⟩
  have h3 := owns_put h.own (i := k + 1) (by omega) (.int .i64 X)
  rw [hL] at h3
  rw [h1, h2]
  cases h4 : L 17 with
  | false => rw [h4] at h3; exact h3
  | true =>
    rw [h4] at h3
    simp only [if_true, Bool.false_eq_true, if_false] at h3 ⊢
    rw [List.set_comm _ _ (by omega)] at h3
    exact h3
theorem Wsw.put17 (h : Wsw w base g n c k X Y xs L w1) (hL : L 17 = false) (hk : k + 1 < n) (h1 : L2 17 = true) (h2 : L2 15 = L 15) : Wsw w base g n c k X Y xs L2 (w1.setCell ⟨g, k, none⟩ (.int .i64 Y)) := by
  refine ⟨?_, Kp.setCell (S := fun i => i = g) (p := ⟨g, k, none⟩) h.kp rfl _⟩
  have h3 := owns_put h.own (i := k) (by omega) (.int .i64 Y)
  rw [hL] at h3
  rw [h1, h2]
  exact h3
end

def pv29 (g n c k : Nat) (X Y : Int) : Nat → Value → Prop
  | 0, v => v = .slice (some ⟨g, 0, none⟩) n c
  | 1, v => v = .int .i64 ((k : Int) + 1)
  | 2, v => v = .slice (some ⟨g, 0, none⟩) n c
  | 3, v => v = .int .i64 ((k : Int) + 1)
  | 4, v => v = .int .i64 (k : Int)
  | 5, v => v = .slice (some ⟨g, 0, none⟩) n c
  | 6, v => v = .int .i64 ((k : Int) + 1)
  | 7, v => v = .int .i64 (k : Int)
  | 8, v => v = .pointer (some ⟨g, k, none⟩)
  | 9, v => v = .int .i64 X
  | 10, v => v = .slice (some ⟨g, 0, none⟩) n c
  | 11, v => v = .int .i64 ((k : Int) + 1)
  | 12, v => v = .pointer (some ⟨g, k + 1, none⟩)
  | 13, v => v = .int .i64 Y
  | 14, v => v = .pointer (some ⟨g, k + 1, none⟩)
  | 15, v => True
  | 16, v => v = .pointer (some ⟨g, k, none⟩)
  | 17, v => True
  | _, _ => True

set_option maxRecDepth 100000 in
set_option maxHeartbeats 4000000 in
theorem swap_r29 {FF : Act → World → Prop} {w : World} {base g n c k : Nat} {X Y : Int} {xs : List Value} {c0 c1 c2 c3 c4 c5 c6 c7 c8 c9 c11 c12 c13 c14 c15 c16 c17 c19 c20 c21 c22 c23 c24 c25 c26 c27 c28 c29 c30 c31 c32 c33 c34 c35 c36 c37 c38 c39 c40 c41 c42 c43 c44 c45 c46 c47 c48 c49 c50 c51 c52 c53 c54 c55 c56 c57 c58 c59 c60 c61 c62 c63 c64 c65 c66 c67 c68 c69 c70 c71 c72 c73 c74 c75 c76 c77 c78 c79 c80 c81 c82 c83 c84 c85 c86 c87 c88 c89 c90 c91 c92 c93 c94 c95 c96 c97 c98 c99 c100 c101 c102 c103 c104 c105 c106 c107 c108 c109 c110 c111 c112 c113 c114 c115 c116 c117 c118 c119 c120 c121 c122 : Value}
    (hk : k + 1 < n) (hk2 : k ≤ 100) (hown : Hid (w.ownsRow base 3 1 (.slice (some ⟨g, 0, none⟩) n c) n xs)) (hX : Hid (xs[k]? = some (.int .i64 X))) (hY : Hid (xs[k + 1]? = some (.int .i64 Y)))
    (hQ : Hid (∀ (d106 d107 d108 d109 d110 d111 d112 d113 d114 d115 d116 d117 d118 d119 d120 d121 : Value) (w' : World), w'.ownsRow base 3 1 (.slice (some ⟨g, 0, none⟩) n c) n ((xs.set (k + 1) (.int .i64 X)).set k (.int .i64 Y)) → Kp (fun i => i = g) w w' → FF ⟨#[c0, c1, c2, c3, c4, c5, c6, c7, c8, c9, .slice (some ⟨g, 0, none⟩) n c, c11, c12, c13, c14, c15, c16, c17, .int .i64 ((k : Int) + 1), c19, c20, c21, c22, c23, c24, c25, c26, c27, c28, c29, c30, c31, c32, c33, c34, c35, c36, c37, c38, c39, c40, c41, c42, c43, c44, c45, c46, c47, c48, c49, c50, c51, c52, c53, c54, c55, c56, c57, c58, c59, c60, c61, c62, c63, c64, c65, c66, c67, c68, c69, c70, c71, c72, c73, c74, c75, c76, c77, c78, c79, c80, c81, c82, c83, c84, c85, c86, c87, c88, c89, c90, c91, c92, c93, c94, c95, c96, c97, c98, c99, c100, c101, c102, c103, c104, c105, d106, d107, d108, d109, d110, d111, d112, d113, d114, d115, d116, d117, d118, d119, d120, d121, c122], []⟩ w')) :
    Code.wp Tryz.prog ((Tryz.f7.body.bind (regAt 29)).getD .skip) (Nrm FF) ⟨#[c0, c1, c2, c3, c4, c5, c6, c7, c8, c9, .slice (some ⟨g, 0, none⟩) n c, c11, c12, c13, c14, c15, c16, c17, .int .i64 ((k : Int) + 1), c19, c20, c21, c22, c23, c24, c25, c26, c27, c28, c29, c30, c31, c32, c33, c34, c35, c36, c37, c38, c39, c40, c41, c42, c43, c44, c45, c46, c47, c48, c49, c50, c51, c52, c53, c54, c55, c56, c57, c58, c59, c60, c61, c62, c63, c64, c65, c66, c67, c68, c69, c70, c71, c72, c73, c74, c75, c76, c77, c78, c79, c80, c81, c82, c83, c84, c85, c86, c87, c88, c89, c90, c91, c92, c93, c94, c95, c96, c97, c98, c99, c100, c101, c102, c103, c104, c105, c106, c107, c108, c109, c110, c111, c112, c113, c114, c115, c116, c117, c118, c119, c120, c121, c122], []⟩ w := by
  conv => arg 2; whnf
  refine wp_region_alv (Wd := fun L V w1 => Wsw w base g n c k X Y xs L w1) (Pv := pv29 g n c k X Y) (by kernel_rfl) (by kernel_rfl) ?_ ?_ ?_
  · intro L V2 hL
    exact ⟨by rw [hL 15, hL 17]; exact owns_below hown.out (drew_below w), Kp.of_below (drew_below w)⟩
  · refine ⟨?_, ?_, ?_, ?_, ?_, ?_, ?_, ?_, ?_, ?_, ?_, ?_, ?_, ?_, ?_, ?_, ?_, ?_, trivial⟩
    · intro ac w1 L hL hup hcl hW hdd hk Kx hK
      refine yes (want_n rfl) (wp_mv _ rfl _ (get_keep (hk 10 (no_dst (by kernel_rfl))) rfl) ?_)
      exact hK _ _ (fun _ => rfl) (fun L2 V2 i1 i2 i3 i4 => hW.same (i2 15 (by decide)) (i2 17 (by decide)))
    · intro ac w1 L hL hup hcl hW hdd hk Kx hK
      refine yes (want_n rfl) (wp_mv _ rfl _ (get_keep (hk 18 (no_dst (by kernel_rfl))) rfl) ?_)
      exact hK _ _ (fun _ => rfl) (fun L2 V2 i1 i2 i3 i4 => hW.same (i2 15 (by decide)) (i2 17 (by decide)))
    · intro ac w1 L hL hup hcl hW hdd hk Kx hK
      refine yes (want_n rfl) (wp_mv _ rfl _ (get_keep (hk 10 (no_dst (by kernel_rfl))) rfl) ?_)
      exact hK _ _ (fun _ => rfl) (fun L2 V2 i1 i2 i3 i4 => hW.same (i2 15 (by decide)) (i2 17 (by decide)))
    · intro ac w1 L hL hup hcl hW hdd hk Kx hK
      refine yes (want_n rfl) (wp_mv _ rfl _ (get_keep (hk 18 (no_dst (by kernel_rfl))) rfl) ?_)
      exact hK _ _ (fun _ => rfl) (fun L2 V2 i1 i2 i3 i4 => hW.same (i2 15 (by decide)) (i2 17 (by decide)))
    · intro ac w1 L hL hup hcl hW hdd hk Kx hK
      have e109 : ac.tmps[109]?.getD undef = (.int .i64 ((k : Int) + 1) : Value) := slot (hdd 3 _ 109 rfl rfl rfl)
      have hwm : IntKind.i64.wrap (k : Int) = (k : Int) := by simp [IntKind.wrap, IntKind.bits, IntKind.signed]; omega
      refine yes (want_n rfl) ?_
      have hv := hid (hK (.int .i64 (k : Int)) w1 (fun _ => rfl) (fun L2 V2 i1 i2 i3 i4 => hW.same (i2 15 (by decide)) (i2 17 (by decide))))
      clear hK hW hL hup hdd hk hcl
      go_simp
      exact kq hv.out rfl
    · intro ac w1 L hL hup hcl hW hdd hk Kx hK
      refine yes (want_n rfl) (wp_mv _ rfl _ (get_keep (hk 10 (no_dst (by kernel_rfl))) rfl) ?_)
      exact hK _ _ (fun _ => rfl) (fun L2 V2 i1 i2 i3 i4 => hW.same (i2 15 (by decide)) (i2 17 (by decide)))
    · intro ac w1 L hL hup hcl hW hdd hk Kx hK
      refine yes (want_n rfl) (wp_mv _ rfl _ (get_keep (hk 18 (no_dst (by kernel_rfl))) rfl) ?_)
      exact hK _ _ (fun _ => rfl) (fun L2 V2 i1 i2 i3 i4 => hW.same (i2 15 (by decide)) (i2 17 (by decide)))
    · intro ac w1 L hL hup hcl hW hdd hk Kx hK
      have e112 : ac.tmps[112]?.getD undef = (.int .i64 ((k : Int) + 1) : Value) := slot (hdd 6 _ 112 rfl rfl rfl)
      have hwm : IntKind.i64.wrap (k : Int) = (k : Int) := by simp [IntKind.wrap, IntKind.bits, IntKind.signed]; omega
      refine yes (want_n rfl) ?_
      have hv := hid (hK (.int .i64 (k : Int)) w1 (fun _ => rfl) (fun L2 V2 i1 i2 i3 i4 => hW.same (i2 15 (by decide)) (i2 17 (by decide))))
      clear hK hW hL hup hdd hk hcl
      go_simp
      exact kq hv.out rfl
    · intro ac w1 L hL hup hcl hW hdd hk Kx hK
      have e111 : ac.tmps[111]?.getD undef = (.slice (some ⟨g, 0, none⟩) n c : Value) := slot (hdd 5 _ 111 rfl rfl rfl)
      have e113 : ac.tmps[113]?.getD undef = (.int .i64 (k : Int) : Value) := slot (hdd 7 _ 113 rfl rfl rfl)
      have i1 : (k : Int) < (n : Int) := by omega
      have i2 : (k : Int) + 1 < (n : Int) := by omega
      refine yes (want_n rfl) ?_
      have hv := hid (hK (.pointer (some ⟨g, k, none⟩)) w1 (fun _ => rfl) (fun L2 V2 i1 i2 i3 i4 => hW.same (i2 15 (by decide)) (i2 17 (by decide))))
      clear hK hW hL hup hdd hk hcl
      go_simp
      exact kq hv.out rfl
    · intro ac w1 L hL hup hcl hW hdd hk Kx hK
      have e114 : ac.tmps[114]?.getD undef = (.pointer (some ⟨g, k, none⟩) : Value) := slot (hdd 8 _ 114 rfl rfl rfl)
      have h15 : L 15 = false := not_yet hcl 12 (j := 9) (by kernel_rfl) hL
      have h17 : L 17 = false := not_yet hcl 12 (j := 9) (by kernel_rfl) hL
      have x0 := hW.at0 h15 h17 hX.out
      refine yes (want_n rfl) ?_
      have hv := hid (hK (.int .i64 X) w1 (fun _ => rfl) (fun L2 V2 i1 i2 i3 i4 => hW.same (i2 15 (by decide)) (i2 17 (by decide))))
      clear hK hW hL hup hdd hk hcl
      go_simp
      exact kq hv.out rfl
    · intro ac w1 L hL hup hcl hW hdd hk Kx hK
      refine yes (want_n rfl) (wp_mv _ rfl _ (get_keep (hk 10 (no_dst (by kernel_rfl))) rfl) ?_)
      exact hK _ _ (fun _ => rfl) (fun L2 V2 i1 i2 i3 i4 => hW.same (i2 15 (by decide)) (i2 17 (by decide)))
    · intro ac w1 L hL hup hcl hW hdd hk Kx hK
      refine yes (want_n rfl) (wp_mv _ rfl _ (get_keep (hk 18 (no_dst (by kernel_rfl))) rfl) ?_)
      exact hK _ _ (fun _ => rfl) (fun L2 V2 i1 i2 i3 i4 => hW.same (i2 15 (by decide)) (i2 17 (by decide)))
    · intro ac w1 L hL hup hcl hW hdd hk Kx hK
      have e116 : ac.tmps[116]?.getD undef = (.slice (some ⟨g, 0, none⟩) n c : Value) := slot (hdd 10 _ 116 rfl rfl rfl)
      have e117 : ac.tmps[117]?.getD undef = (.int .i64 ((k : Int) + 1) : Value) := slot (hdd 11 _ 117 rfl rfl rfl)
      have i1 : (k : Int) < (n : Int) := by omega
      have i2 : (k : Int) + 1 < (n : Int) := by omega
      refine yes (want_n rfl) ?_
      have hv := hid (hK (.pointer (some ⟨g, k + 1, none⟩)) w1 (fun _ => rfl) (fun L2 V2 i1 i2 i3 i4 => hW.same (i2 15 (by decide)) (i2 17 (by decide))))
      clear hK hW hL hup hdd hk hcl
      go_simp
      exact kq hv.out rfl
    · intro ac w1 L hL hup hcl hW hdd hk Kx hK
      have e118 : ac.tmps[118]?.getD undef = (.pointer (some ⟨g, k + 1, none⟩) : Value) := slot (hdd 12 _ 118 rfl rfl rfl)
      have h15 : L 15 = false := not_yet hcl 12 (j := 13) (by kernel_rfl) hL
      have h17 : L 17 = false := not_yet hcl 12 (j := 13) (by kernel_rfl) hL
      have x0 := hW.at0 h15 h17 hY.out
      refine yes (want_n rfl) ?_
      have hv := hid (hK (.int .i64 Y) w1 (fun _ => rfl) (fun L2 V2 i1 i2 i3 i4 => hW.same (i2 15 (by decide)) (i2 17 (by decide))))
      clear hK hW hL hup hdd hk hcl
      go_simp
      exact kq hv.out rfl
    · intro ac w1 L hL hup hcl hW hdd hk Kx hK
      have e106 : ac.tmps[106]?.getD undef = (.slice (some ⟨g, 0, none⟩) n c : Value) := slot (hdd 0 _ 106 rfl rfl rfl)
      have e107 : ac.tmps[107]?.getD undef = (.int .i64 ((k : Int) + 1) : Value) := slot (hdd 1 _ 107 rfl rfl rfl)
      have i1 : (k : Int) < (n : Int) := by omega
      have i2 : (k : Int) + 1 < (n : Int) := by omega
      refine yes (want_n rfl) ?_
      have hv := hid (hK (.pointer (some ⟨g, k + 1, none⟩)) w1 (fun _ => rfl) (fun L2 V2 i1 i2 i3 i4 => hW.same (i2 15 (by decide)) (i2 17 (by decide))))
      clear hK hW hL hup hdd hk hcl
      go_simp
      exact kq hv.out rfl
    · intro ac w1 L hL hup hcl hW hdd hk Kx hK
      have f0 := hW.free (k + 1)
      obtain ⟨u0, x0⟩ := hW.there (m := k + 1) (by omega)
      have hn2 := fun (L2 : Nat → Bool) (h1 : L2 15 = true) (h2 : L2 17 = L 17) => hW.put15 hL (by omega) h1 h2
      have e120 : ac.tmps[120]?.getD undef = (.pointer (some ⟨g, k + 1, none⟩) : Value) := slot (hdd 14 _ 120 rfl rfl rfl)
      have e115 : ac.tmps[115]?.getD undef = (.int .i64 X : Value) := slot (hdd 9 _ 115 rfl rfl rfl)
      have hv := hid (hK undef (w1.setCell ⟨g, k + 1, none⟩ (.int .i64 X)) (fun h => absurd rfl h) (fun L2 V2 i1 i2 i3 i4 => hn2 L2 i1 (i2 17 (by decide))))
      refine yes (want_n rfl) ?_
      clear hK hW hL hup hdd hk hcl hn2
      go_simp
      exact hv.out
    · intro ac w1 L hL hup hcl hW hdd hk Kx hK
      have e108 : ac.tmps[108]?.getD undef = (.slice (some ⟨g, 0, none⟩) n c : Value) := slot (hdd 2 _ 108 rfl rfl rfl)
      have e110 : ac.tmps[110]?.getD undef = (.int .i64 (k : Int) : Value) := slot (hdd 4 _ 110 rfl rfl rfl)
      have i1 : (k : Int) < (n : Int) := by omega
      have i2 : (k : Int) + 1 < (n : Int) := by omega
      refine yes (want_n rfl) ?_
      have hv := hid (hK (.pointer (some ⟨g, k, none⟩)) w1 (fun _ => rfl) (fun L2 V2 i1 i2 i3 i4 => hW.same (i2 15 (by decide)) (i2 17 (by decide))))
      clear hK hW hL hup hdd hk hcl
      go_simp
      exact kq hv.out rfl
    · intro ac w1 L hL hup hcl hW hdd hk Kx hK
      have f0 := hW.free (k)
      obtain ⟨u0, x0⟩ := hW.there (m := k) (by omega)
      have hn2 := fun (L2 : Nat → Bool) (h1 : L2 17 = true) (h2 : L2 15 = L 15) => hW.put17 hL (by omega) h1 h2
      have e121 : ac.tmps[121]?.getD undef = (.pointer (some ⟨g, k, none⟩) : Value) := slot (hdd 16 _ 121 rfl rfl rfl)
      have e119 : ac.tmps[119]?.getD undef = (.int .i64 Y : Value) := slot (hdd 13 _ 119 rfl rfl rfl)
      have hv := hid (hK undef (w1.setCell ⟨g, k, none⟩ (.int .i64 Y)) (fun h => absurd rfl h) (fun L2 V2 i1 i2 i3 i4 => hn2 L2 i1 (i2 15 (by decide))))
      refine yes (want_n rfl) ?_
      clear hK hW hL hup hdd hk hcl hn2
      go_simp
      exact hv.out
  · intro ac w1 hdf hsz hkp hval hW
    obtain ⟨L, hall, hW⟩ := hW
    have h1 := hW.own
    rw [hall 15 (by decide), hall 17 (by decide)] at h1
    have h2 := hW.kp
    obtain ⟨ff, hf⟩ : ∃ ff, ff = fun d => ac.tmps.getD d undef := ⟨_, rfl⟩
    have hfa := act_filled hdf hsz hkp
    rw [← hf] at hfa
    rw [hfa]
    clear hdf hsz hkp hval hfa hf hW
    clear ac
    simp only [fillAll, List.set_cons_zero, List.set_cons_succ]
    exact hQ.out _ _ _ _ _ _ _ _ _ _ _ _ _ _ _ _ w1 h1 h2
end Go.Proofs.YtomdghodbkhkaaaGreatDoor

namespace Go.Proofs.YtomdghodbkhkaaaGreatDoor
open Go.RowKit
set_option linter.unusedVariables false
set_option linter.unusedSimpArgs false

/-- While the numbers are put in. -/
structure LS (w2 wr : World) (v : Value) (F m O rest : List Nat) : Prop where
  pi : PI F m O rest
  own : IOwn wr w2.heap.size v (cs O)
  bel : Below w2.heap.size w2 wr
theorem LS.below {w2 wr w' : World} {v : Value} {F m O rest : List Nat} (h : LS w2 wr v F m O rest) (hb : Below wr.heap.size wr w') : LS w2 w' v F m O rest := ⟨h.pi, h.own.below hb, bnext h.bel hb⟩
theorem sown_below {w w' : World} {base : Nat} {v : Value} {T : List (List UInt8)} (h : SOwn w base v T) (hb : Below w.heap.size w w') : SOwn w' base v T := owns_below h hb
theorem cs_flat (L : List Nat) : (cs L).flatMap ic = L.map (fun n : Nat => Value.int .i64 (n : Int)) := by
  unfold cs ic
  induction L with
  | nil => rfl
  | cons x t ih => simp only [List.map_cons, List.flatMap_cons, ih]; rfl
theorem cs_cell (L : List Nat) (q : Nat) (h : q < L.length) : ((cs L).flatMap ic)[q]? = some (.int .i64 ((L.getD q 0 : Nat) : Int)) := by
  rw [cs_flat, List.getElem?_map, List.getElem?_eq_getElem h, List.getD_eq_getElem?_getD, List.getElem?_eq_getElem h]
  rfl
theorem cs_swap (L : List Nat) (a b x y : Nat) : (((cs L).flatMap ic).set a (.int .i64 (x : Int))).set b (.int .i64 (y : Int)) = (cs ((L.set a x).set b y)).flatMap ic := by
  rw [cs_flat, cs_flat, List.map_set, List.map_set]
theorem cs_insAt_end (O : List Nat) (n : Nat) : cs O ++ [(n : Int)] = cs (insAt O n O.length) := by rw [insAt_end, cs_app]; rfl
theorem good_part {T : List (List UInt8)} (h : goodP T = true) {i : Nat} (hi : i < T.length) : ∃ r, runP (T.getD i []) = some r := by
  have e : T.getD i [] = T[i] := by simp [List.getD_eq_getElem?_getD, List.getElem?_eq_getElem hi]
  unfold goodP at h
  rw [e]
  exact Option.isSome_iff_exists.1 (List.all_eq_true.1 h T[i] (List.getElem_mem hi))
theorem good_all {T : List (List UInt8)} (h : ∀ i, i < T.length → (runP (T.getD i [])).isSome = true) : goodP T = true := by
  unfold goodP
  rw [List.all_eq_true]
  intro x hx
  obtain ⟨i, hi, rfl⟩ := List.getElem_of_mem hx
  have := h i hi
  have e : T.getD i [] = T[i] := by simp [List.getD_eq_getElem?_getD, List.getElem?_eq_getElem hi]
  rw [e] at this
  exact this
theorem good_bad {T : List (List UInt8)} {i : Nat} (hi : i < T.length) (h : (runP (T.getD i [])).isSome = false) : goodP T = false := by
  rw [Bool.eq_false_iff]
  intro h2
  obtain ⟨r, hr⟩ := good_part h2 hi
  rw [hr] at h
  cases h

set_option maxRecDepth 100000 in
set_option maxHeartbeats 4000000 in
theorem rparse_any (l : List UInt8) (hl : l.length ≤ 9223372036854775807) (w : World) :
    Calls Tryz.prog 7 #[Str l] w fun e w' => PTold w' w.heap.size (parseP l) e ∧ Below w.heap.size w w' := by
  obtain ⟨s, hs, hsz, hget, hS, hdl⟩ := str_facts l
  by_cases h4 : 400 < l.length
  · have hP := hid (show parseP l = ([], 3) by unfold parseP; rw [if_pos h4])
    have d : decide ((400 : Int) < (s.size : Int)) = true := by rw [hsz]; simp; omega
    rw [hS]
    clear hs hget hdl
    replace hsz := hid hsz
    go_enter Tryz.func7, Tryz.ntmps7
    go_wp2
    go_ret2
    rw [hP.out]
    exact ⟨.inl ⟨by decide, rfl⟩, Below.refl _ _⟩
  have kc := cutd_any 44 l (by omega) w
  have hc44 : (((44 : UInt8).toNat : Nat) : Int) = 44 := rfl
  rw [hc44] at kc
  have d : decide ((400 : Int) < (s.size : Int)) = false := by rw [hsz]; simp; omega
  obtain ⟨hT1, hT2⟩ := pcs_small 44 l
  have hT0 := pcs_ne 44 l
  have hPg : goodP (pcs 44 l) = true → parseP l = (sortS (addS (flat (runsP (pcs 44 l))) []).1, (addS (flat (runsP (pcs 44 l))) []).2) := fun h => by unfold parseP; rw [if_neg h4, if_pos h]
  have hPb : goodP (pcs 44 l) = false → parseP l = ([], 100) := fun h => by unfold parseP; rw [if_neg h4, if_neg (by simp [h])]
  obtain ⟨T, hT⟩ : ∃ T, T = pcs 44 l := ⟨_, rfl⟩
  rw [← hT] at kc hT1 hT2 hT0 hPg hPb
  obtain ⟨P, hP⟩ : ∃ P, P = parseP l := ⟨_, rfl⟩
  rw [← hP] at hPg hPb ⊢
  have hpos : 0 < T.length := List.length_pos_iff.2 hT0
  have hget2 : ∀ i, i < T.length → (T.getD i []).length ≤ 400 := fun i hi => by
    have e : T.getD i [] = T[i] := by simp [List.getD_eq_getElem?_getD, List.getElem?_eq_getElem hi]
    rw [e]; have := hT2 _ (List.getElem_mem hi); omega
  rw [hS] at kc ⊢
  clear hs hget hdl hT2 hT0
  replace hS := hid hS
  replace hsz := hid hsz
  replace hT := hid hT
  replace hP := hid hP
  replace hPg := hid hPg
  replace hPb := hid hPb
  replace hget2 := hid hget2
  obtain ⟨i0, hi0, hz0, hz1, hz2⟩ := info_parts info3
  obtain ⟨i0, hi0, hz0, hz1, hz2⟩ := info_parts info3
  go_enter Tryz.func7, Tryz.ntmps7
  go_wp2_with fail
  refine kc.mono ?_
  rintro e w1 ⟨a, cc, rfl, ho, hb1⟩
  have ho' := ho
  unfold SOwn at ho'
  obtain ⟨g, c2, e1, hg1, hg2, _, _⟩ := owns_spot ho' hpos
  simp only [Value.slice.injEq] at e1
  obtain ⟨rfl, _, _⟩ := e1
  clear ho'
  replace ho := hid ho
  go_wp2_with fail
  go_loopw [5] (fun vi wr => ∃ i : Nat, i ≤ T.length ∧ vi = .int .i64 (i : Int) ∧ Hid (∀ q, q < i → (runP (T.getD q [])).isSome = true) ∧ Below w1.heap.size w1 wr) (fun vi _ => T.length - (intOf vi).toNat)
  case atStart => exact ⟨0, Nat.zero_le _, rfl, hid (fun q h => by omega), Below.refl _ _⟩
  case round =>
    obtain ⟨i, hi, rfl, hok, hb⟩ := hrel
    by_cases hlt : i < T.length
    · have x0 := text_at (sown_below ho.out hb) hlt
      have kp := piece_any (T.getD i []) (hget2.out i hlt) wr
      obtain ⟨p1, p2⟩ := piece_run (T.getD i [])
      have hbad := hid (fun h => hPb.out (good_bad hlt h))
      have hnx : (runP (T.getD i [])).isSome = true → ∀ q, q < i + 1 → (runP (T.getD q [])).isSome = true := fun h q hq => by
        rcases Nat.lt_or_ge q i with h1 | h1
        · exact hok.out q h1
        · obtain rfl : q = i := by omega
          exact h
      obtain ⟨VV, hVV⟩ : ∃ VV, VV = pieceV (T.getD i []) := ⟨_, rfl⟩
      rw [← hVV] at kp p1
      obtain ⟨V1, V2, V3, V4⟩ := VV
      dsimp only at kp p1
      replace hVV := hid hVV
      clear p2
      obtain ⟨Z, hZ⟩ : ∃ Z, Z = Str (T.getD i []) := ⟨_, rfl⟩
      rw [← hZ] at x0 kp
      replace hZ := hid hZ
      cases V4 with
      | true =>
        have hn2 := hid (hnx p1.symm)
        clear hnx hbad p1
        go_wp2_with fail
        refine kp.mono ?_
        rintro e w3 ⟨rfl, hb3⟩
        have B3 := bnext hb hb3
        go_wp2_with fail
        go_roundw
        case rel => exact ⟨i + 1, by omega, by go_num, hn2, B3⟩
        case measure => (simp [intOf]; try omega)
      | false =>
        have hP2 := hid (hbad.out p1.symm)
        clear hnx hbad p1
        go_wp2_with fail
        refine kp.mono ?_
        rintro e w3 ⟨rfl, hb3⟩
        have B3 := bnext hb1 (bnext hb hb3)
        go_wp2_with fail
        go_ret2
        rw [hP2.out]
        exact ⟨.inl ⟨by decide, rfl⟩, B3⟩
    · obtain rfl : i = T.length := by omega
      have hgood := good_all hok.out
      have hPv := hid (hPg.out hgood)
      obtain ⟨w2, hw2⟩ : ∃ w2, w2 = wr := ⟨_, rfl⟩
      subst hw2
      have B2 := bnext hb1 hb
      have hzw := hb.size
      have ho2 := hid (sown_below ho.out hb)
      replace hgood := hid hgood
      clear hok
      have hst : LS w2 w2 (.slice none 0 0) (flat (runsP T)) [] [] (flat (runsP (T.drop 0))) := ⟨PI.start _, IOwn.nil _ _, Below.refl _ _⟩
      replace hst := hid hst
      go_wp2_with fail
      go_loopw [10, 11] (fun v vi wr => ∃ (i : Nat) (m O : List Nat), i ≤ T.length ∧ vi = .int .i64 (i : Int) ∧ Hid (LS w2 wr v (flat (runsP T)) m O (flat (runsP (T.drop i))))) (fun _ vi _ => T.length - (intOf vi).toNat)
      case atStart => exact ⟨0, [], [], Nat.zero_le _, rfl, hst⟩
      case round =>
        obtain ⟨i, m, O, hi, rfl, hLS⟩ := hrel
        obtain ⟨va, vc, e, hvc⟩ := owns_form hLS.out.own
        subst e
        rw [cs_len] at hvc hLS ⊢
        by_cases hlt : i < T.length
        · have x0 := text_at (sown_below ho2.out hLS.out.bel) hlt
          have kp := piece_any (T.getD i []) (hget2.out i hlt) wr
          obtain ⟨r, hr⟩ := good_part hgood.out hlt
          have hpv := (piece_run (T.getD i [])).2 r hr
          rw [hpv] at kp
          dsimp only at kp
          have hle := run_le hr
          have hrd := runs_drop hlt hr
          replace hr := hid hr
          replace hpv := hid hpv
          obtain ⟨Z, hZ⟩ : ∃ Z, Z = Str (T.getD i []) := ⟨_, rfl⟩
          rw [← hZ] at x0 kp
          replace hZ := hid hZ
          obtain ⟨hr1, hr2, hr3, hr4⟩ := hle
          have hLSr : LS w2 wr (.slice va O.length vc) (flat (runsP T)) m O ((idx r).drop 0 ++ flat (runsP (T.drop (i + 1)))) := by
            have := hLS.out
            rw [hrd, flat_cons] at this
            exact this
          replace hrd := hid hrd
          go_wp2_with fail
          refine kp.mono ?_
          rintro e w3 ⟨rfl, hb3⟩
          have hLS2 := hid (LS.below hLSr hb3)
          clear hLSr hLS x0 kp
          go_wp2_with fail
          go_loopw [10, 16] (fun v vn wr => ∃ (k : Nat) (m O : List Nat), k ≤ (r.2.1 - r.1) / r.2.2 + 1 ∧ vn = .int .i64 ((r.1 + r.2.2 * k : Nat) : Int) ∧ Hid (LS w2 wr v (flat (runsP T)) m O ((idx r).drop k ++ flat (runsP (T.drop (i + 1)))))) (fun _ vn _ => 20000 - (intOf vn).toNat)
          case atStart => exact ⟨0, m, O, Nat.zero_le _, by simp, hLS2⟩
          case round =>
            obtain ⟨k, m, O, hk, rfl, hLS3⟩ := hrel
            obtain ⟨va, vc, e, hvc⟩ := owns_form hLS3.out.own
            subst e
            rw [cs_len] at hvc hLS3 ⊢
            obtain ⟨n, hne⟩ : ∃ n, n = r.1 + r.2.2 * k := ⟨_, rfl⟩
            have hidx := idx_in (r := r) (k := k) hr1 hr3
            rw [← hne] at hidx ⊢
            by_cases hin : n ≤ r.2.1
            · have hkk := hidx.1 hin
              rw [idx_drop2 hkk, ← hne] at hLS3
              replace hne : Hid (n = r.1 + r.2.2 * k) := hid hne
              clear hidx
              have hn9 : n ≤ 9999 := by omega
              have dn : (n : Int) ≤ (r.2.1 : Int) := by omega
              rw [List.cons_append] at hLS3
              obtain ⟨w4, hw4⟩ : ∃ w4, w4 = wr := ⟨_, rfl⟩
              subst hw4
              have hiat := hid hLS3.out.own.iat
              have hiown := hid hLS3.out.own
              have hb4 := hLS3.out.bel
              have hO32' : O.length ≤ 32 := by have := hLS3.out.pi.olen; have := hLS3.out.pi.len; omega
              go_wp2_with fail
              go_loopw [17] (fun vj wr => ∃ j : Nat, j ≤ O.length ∧ vj = .int .i64 (j : Int) ∧ Hid (∀ q, q < j → O.getD q 0 < n) ∧ Below w4.heap.size w4 wr) (fun vj _ => O.length - (intOf vj).toNat)
              case atStart => exact ⟨0, Nat.zero_le _, rfl, hid (fun q h => by omega), Below.refl _ _⟩
              case round =>
                obtain ⟨j, hjO, rfl, hO1, hb5⟩ := hrel
                by_cases hjl : j < O.length
                · obtain ⟨b, o, e⟩ := hiat.out.place (by rw [cs_len]; omega)
                  subst e
                  have x1 := (hiat.out.below hb5).one (i := j) (by rw [cs_len]; exact hjl)
                  rw [cs_at hjl] at x1
                  have djl : (j : Int) < (O.length : Int) := by omega
                  obtain ⟨Q, hQ⟩ : ∃ Q, Q = O.getD j 0 := ⟨_, rfl⟩
                  rw [← hQ] at x1
                  by_cases hQn : Q < n
                  · have dq : (Q : Int) < (n : Int) := by omega
                    have hO2 : Hid (∀ q, q < j + 1 → O.getD q 0 < n) := hid (fun q hq => by
                      rcases Nat.lt_or_ge q j with h1 | h1
                      · exact hO1.out q h1
                      · obtain rfl : q = j := by omega
                        rw [← hQ]; exact hQn)
                    replace hQ := hid hQ
                    go_wp2_with fail
                    go_roundw
                    case rel => exact ⟨j + 1, by omega, by go_num, hO2, hb5⟩
                    case measure => (simp [intOf]; try omega)
                  · have dq : ¬ (Q : Int) < (n : Int) := by omega
                    by_cases hQe : Q = n
                    · have hP2 : P = ([], 140) := by
                        rw [hPv.out, hLS3.out.pi.twice hjl (by rw [← hQ]; exact hQe)]
                        rfl
                      have kq : ((Q : Int) == (n : Int)) = true := by rw [hQe]; simp
                      replace hP2 := hid hP2
                      replace hQ := hid hQ
                      replace hQe := hid hQe
                      go_wp2_with fail
                      go_ret2
                      rw [hP2.out]
                      exact ⟨.inl ⟨by decide, rfl⟩, Below.trans B2 ((bnext hb4 hb5).mono B2.size)⟩
                    · have kq : ((Q : Int) == (n : Int)) = false := by simpa using (by omega : ¬ (Q : Int) = (n : Int))
                      have hQ2 : n < O.getD j 0 := by rw [← hQ]; omega
                      replace hQ := hid hQ
                      replace hQe := hid hQe
                      replace hQ2 := hid hQ2
                      -- the number goes in
                      by_cases h32 : O.length = 32
                      · have hP2 : P = ([], 3) := by
                          rw [hPv.out, hLS3.out.pi.long (by omega) hO1.out (fun h => hQ2.out) (by omega)]
                          rfl
                        have k32 : ((O.length : Int) == 32) = true := by rw [h32]; rfl
                        replace hP2 := hid hP2
                        replace h32 := hid h32
                        go_wp2_with fail
                        go_ret2
                        rw [hP2.out]
                        exact ⟨.inl ⟨by decide, rfl⟩, Below.trans B2 ((bnext hb4 hb5).mono B2.size)⟩
                      have k32 : ((O.length : Int) == 32) = false := by simpa using (by omega : ¬ (O.length : Int) = 32)
                      have hLn := hid (hLS3.out.pi.next hn9 (by omega) hO1.out (fun h => hQ2.out) (by have := hLS3.out.pi.olen; have := hLS3.out.pi.len; omega))
                      have hO32 : O.length < 32 := by have := hLS3.out.pi.olen; have := hLS3.out.pi.len; omega
                      replace h32 := hid h32
                      have bl := below_lit wr (.cells #[.int .i64 (n : Int)] 3)
                      have B0 := bnext (bnext hb4 hb5) bl
                      have hcat := hid (cat_lit wr 3 [.int .i64 (n : Int)] #[.int .i64 (n : Int)] rfl)
                      have hone := hid (one_I (n : Int))
                      have hown2' : (wr.alloc (.cells #[.int .i64 (n : Int)] 3)).ownsRow w2.heap.size 3 1 (.slice (some ⟨b, o, none⟩) O.length vc) O.length ((cs O).flatMap ic) := by
                        have := (hiown.out.below hb5).below bl
                        unfold IOwn at this
                        rw [cs_len] at this
                        exact this
                      replace hown2' := hid hown2'
                      go_wp2_with (at_builtin; refine Hid.out ?_)
                      refine wpList_cat _ rfl (.tmp 94) (.tmp 96) 22 rfl w2.heap.size 3 i0 _ 1 8 Tryz.underlying22 hi0 hz0 hz1 hz2 rfl (by omega) _ _ _ rfl hown2'.out (some ⟨wr.heap.size, 0, none⟩) 1 1 [.int .i64 (n : Int)] rfl rfl hcat.out hone.out (by unfold maxLen; omega) (by omega) B0.size ?_
                      intro v' w5 ho5 hg5 hv5
                      have hown5 : w5.ownsRow w2.heap.size 3 1 v' (O.length + 1) ((cs (insAt O n O.length)).flatMap ic) := by
                        rw [← cs_insAt_end, List.flatMap_append]
                        exact ho5
                      have B5 : Below w2.heap.size w2 w5 := Below.grown B0 hg5 B0.size (fun j hj => (hown2'.out.lt _ hj).1)
                      obtain ⟨gv, cv, ev, hgv1, hgv2, hcv, _⟩ := owns_spot hown5 (by omega)
                      subst ev
                      replace hown5 := hid hown5
                      clear ho5 hg5 hv5 hcat hown2' B0 bl hone
                      go_wp2_with fail
                      go_loopw [18] (fun vk wr => ∃ kk : Nat, j ≤ kk ∧ kk ≤ O.length ∧ vk = .int .i64 (kk : Int) ∧ Hid (wr.ownsRow w2.heap.size 3 1 (.slice (some ⟨gv, 0, none⟩) (O.length + 1) cv) (O.length + 1) ((cs (insAt O n kk)).flatMap ic)) ∧ Below w2.heap.size w2 wr) (fun vk _ => (intOf vk).toNat)
                      case atStart => exact ⟨O.length, by omega, Nat.le_refl _, by go_num, hown5, B5⟩
                      case round =>
                        obtain ⟨kk, hjk, hkO, rfl, hown6, hb6⟩ := hrel
                        by_cases hkj : j < kk
                        · obtain ⟨q, rfl⟩ : ∃ q, kk = q + 1 := ⟨kk - 1, by omega⟩
                          have dk : ((j : Nat) : Int) < ((q + 1 : Nat) : Int) := by omega
                          have ek : ((q + 1 : Nat) : Int) = (q : Int) + 1 := by omega
                          rw [ek] at dk ⊢
                          have hX := cs_cell (insAt O n (q + 1)) q (by rw [insAt_len _ _ _ hkO]; omega)
                          have hY := cs_cell (insAt O n (q + 1)) (q + 1) (by rw [insAt_len _ _ _ hkO]; omega)
                          rw [insAt_before hkO] at hX
                          rw [insAt_at hkO] at hY
                          have hsw := cs_swap (insAt O n (q + 1)) (q + 1) q (O.getD q 0) n
                          rw [insAt_swap hkO] at hsw
                          replace hX := hid hX
                          replace hY := hid hY
                          replace hsw := hid hsw
                          go_upto_region 29 with fail
                          refine Code.wp_mono nrm_of ?_
                          refine swap_r29 (by omega) (by omega) hown6 hX hY (hid ?_)
                          intro d106 d107 d108 d109 d110 d111 d112 d113 d114 d115 d116 d117 d118 d119 d120 d121 w7 ho7 hk7
                          have hown7 : Hid (w7.ownsRow w2.heap.size 3 1 (.slice (some ⟨gv, 0, none⟩) (O.length + 1) cv) (O.length + 1) ((cs (insAt O n q)).flatMap ic)) := hid (by rw [← hsw.out]; exact ho7)
                          have B7 : Below w2.heap.size w2 w7 := hb6.trans (hk7.below (base := w2.heap.size) (fun i hi => by omega) hb6.size)
                          clear ho7 hk7
                          go_wp2_with fail
                          go_roundw
                          case rel => exact ⟨q, by omega, by omega, by go_num, hown7, B7⟩
                          case measure => (simp [intOf]; try omega)
                        · have hkje : kk = j := by omega
                          rw [hkje] at hown6
                          have dk2 : ¬ ((j : Nat) : Int) < (kk : Int) := by omega
                          replace hkje := hid hkje
                          have hn' : ((r.1 + r.2.2 * (k + 1) : Nat) : Int) = (n : Int) + (r.2.2 : Int) := by have := hne.out; rw [Nat.mul_add, Nat.mul_one]; omega
                          have hLS4 : LS w2 wr (.slice (some ⟨gv, 0, none⟩) (O.length + 1) cv) (flat (runsP T)) (m ++ [n]) (insAt O n (j)) ((idx r).drop (k + 1) ++ flat (runsP (T.drop (i + 1)))) := by
                            refine ⟨hLn.out, ?_, hb6⟩
                            unfold IOwn
                            rw [cs_len, insAt_len _ _ _ (by omega)]
                            exact hown6.out
                          replace hLS4 := hid hLS4
                          go_wp2_with fail
                          go_roundw
                          case rel => exact ⟨k + 1, m ++ [n], insAt O n (j), by omega, by rw [hn'], hLS4⟩
                          case measure => (simp [intOf]; try omega)
                · obtain rfl : j = O.length := by omega
                  -- the number goes in
                  by_cases h32 : O.length = 32
                  · have hP2 : P = ([], 3) := by
                      rw [hPv.out, hLS3.out.pi.long (by omega) hO1.out (fun h => absurd h (by omega)) (by omega)]
                      rfl
                    have k32 : ((O.length : Int) == 32) = true := by rw [h32]; rfl
                    replace hP2 := hid hP2
                    replace h32 := hid h32
                    go_wp2_with fail
                    go_ret2
                    rw [hP2.out]
                    exact ⟨.inl ⟨by decide, rfl⟩, Below.trans B2 ((bnext hb4 hb5).mono B2.size)⟩
                  have k32 : ((O.length : Int) == 32) = false := by simpa using (by omega : ¬ (O.length : Int) = 32)
                  have hLn := hid (hLS3.out.pi.next hn9 (by omega) hO1.out (fun h => absurd h (by omega)) (by have := hLS3.out.pi.olen; have := hLS3.out.pi.len; omega))
                  have hO32 : O.length < 32 := by have := hLS3.out.pi.olen; have := hLS3.out.pi.len; omega
                  replace h32 := hid h32
                  have bl := below_lit wr (.cells #[.int .i64 (n : Int)] 3)
                  have B0 := bnext (bnext hb4 hb5) bl
                  have hcat := hid (cat_lit wr 3 [.int .i64 (n : Int)] #[.int .i64 (n : Int)] rfl)
                  have hone := hid (one_I (n : Int))
                  have hown2' : (wr.alloc (.cells #[.int .i64 (n : Int)] 3)).ownsRow w2.heap.size 3 1 (.slice va O.length vc) O.length ((cs O).flatMap ic) := by
                    have := (hiown.out.below hb5).below bl
                    unfold IOwn at this
                    rw [cs_len] at this
                    exact this
                  replace hown2' := hid hown2'
                  go_wp2_with (at_builtin; refine Hid.out ?_)
                  refine wpList_cat _ rfl (.tmp 94) (.tmp 96) 22 rfl w2.heap.size 3 i0 _ 1 8 Tryz.underlying22 hi0 hz0 hz1 hz2 rfl (by omega) _ _ _ rfl hown2'.out (some ⟨wr.heap.size, 0, none⟩) 1 1 [.int .i64 (n : Int)] rfl rfl hcat.out hone.out (by unfold maxLen; omega) (by omega) B0.size ?_
                  intro v' w5 ho5 hg5 hv5
                  have hown5 : w5.ownsRow w2.heap.size 3 1 v' (O.length + 1) ((cs (insAt O n O.length)).flatMap ic) := by
                    rw [← cs_insAt_end, List.flatMap_append]
                    exact ho5
                  have B5 : Below w2.heap.size w2 w5 := Below.grown B0 hg5 B0.size (fun j hj => (hown2'.out.lt _ hj).1)
                  obtain ⟨gv, cv, ev, hgv1, hgv2, hcv, _⟩ := owns_spot hown5 (by omega)
                  subst ev
                  replace hown5 := hid hown5
                  clear ho5 hg5 hv5 hcat hown2' B0 bl hone
                  go_wp2_with fail
                  go_loopw [18] (fun vk wr => ∃ kk : Nat, O.length ≤ kk ∧ kk ≤ O.length ∧ vk = .int .i64 (kk : Int) ∧ Hid (wr.ownsRow w2.heap.size 3 1 (.slice (some ⟨gv, 0, none⟩) (O.length + 1) cv) (O.length + 1) ((cs (insAt O n kk)).flatMap ic)) ∧ Below w2.heap.size w2 wr) (fun vk _ => (intOf vk).toNat)
                  case atStart => exact ⟨O.length, Nat.le_refl _, Nat.le_refl _, by go_num, hown5, B5⟩
                  case round =>
                    obtain ⟨kk, hjk, hkO, rfl, hown6, hb6⟩ := hrel
                    by_cases hkj : O.length < kk
                    · obtain ⟨q, rfl⟩ : ∃ q, kk = q + 1 := ⟨kk - 1, by omega⟩
                      have dk : ((O.length : Nat) : Int) < ((q + 1 : Nat) : Int) := by omega
                      have ek : ((q + 1 : Nat) : Int) = (q : Int) + 1 := by omega
                      rw [ek] at dk ⊢
                      have hX := cs_cell (insAt O n (q + 1)) q (by rw [insAt_len _ _ _ hkO]; omega)
                      have hY := cs_cell (insAt O n (q + 1)) (q + 1) (by rw [insAt_len _ _ _ hkO]; omega)
                      rw [insAt_before hkO] at hX
                      rw [insAt_at hkO] at hY
                      have hsw := cs_swap (insAt O n (q + 1)) (q + 1) q (O.getD q 0) n
                      rw [insAt_swap hkO] at hsw
                      replace hX := hid hX
                      replace hY := hid hY
                      replace hsw := hid hsw
                      go_upto_region 29 with fail
                      refine Code.wp_mono nrm_of ?_
                      refine swap_r29 (by omega) (by omega) hown6 hX hY (hid ?_)
                      intro d106 d107 d108 d109 d110 d111 d112 d113 d114 d115 d116 d117 d118 d119 d120 d121 w7 ho7 hk7
                      have hown7 : Hid (w7.ownsRow w2.heap.size 3 1 (.slice (some ⟨gv, 0, none⟩) (O.length + 1) cv) (O.length + 1) ((cs (insAt O n q)).flatMap ic)) := hid (by rw [← hsw.out]; exact ho7)
                      have B7 : Below w2.heap.size w2 w7 := hb6.trans (hk7.below (base := w2.heap.size) (fun i hi => by omega) hb6.size)
                      clear ho7 hk7
                      go_wp2_with fail
                      go_roundw
                      case rel => exact ⟨q, by omega, by omega, by go_num, hown7, B7⟩
                      case measure => (simp [intOf]; try omega)
                    · have hkje : kk = O.length := by omega
                      rw [hkje] at hown6
                      have dk2 : ¬ ((O.length : Nat) : Int) < (kk : Int) := by omega
                      replace hkje := hid hkje
                      have hn' : ((r.1 + r.2.2 * (k + 1) : Nat) : Int) = (n : Int) + (r.2.2 : Int) := by have := hne.out; rw [Nat.mul_add, Nat.mul_one]; omega
                      have hLS4 : LS w2 wr (.slice (some ⟨gv, 0, none⟩) (O.length + 1) cv) (flat (runsP T)) (m ++ [n]) (insAt O n (O.length)) ((idx r).drop (k + 1) ++ flat (runsP (T.drop (i + 1)))) := by
                        refine ⟨hLn.out, ?_, hb6⟩
                        unfold IOwn
                        rw [cs_len, insAt_len _ _ _ (by omega)]
                        exact hown6.out
                      replace hLS4 := hid hLS4
                      go_wp2_with fail
                      go_roundw
                      case rel => exact ⟨k + 1, m ++ [n], insAt O n (O.length), by omega, by rw [hn'], hLS4⟩
                      case measure => (simp [intOf]; try omega)
            · have hkc : ¬ k < (r.2.1 - r.1) / r.2.2 + 1 := fun h => hin (hidx.2 h)
              have hkc2 : k = (r.2.1 - r.1) / r.2.2 + 1 := by omega
              rw [idx_all hkc2, List.nil_append] at hLS3
              have dn : ¬ (n : Int) ≤ (r.2.1 : Int) := by omega
              replace hkc2 := hid hkc2
              replace hne := hid hne
              clear hidx
              go_wp2_with fail
              go_roundw
              case rel => exact ⟨i + 1, m, O, by omega, by go_num, hLS3⟩
              case measure => (simp [intOf]; try omega)
        · obtain rfl : i = T.length := by omega
          have hLS2 := hLS.out
          rw [List.drop_length] at hLS2
          obtain ⟨q1, q2⟩ := hLS2.pi.done
          have hP3 : P = (O, 0) := by rw [hPv.out, q1, q2]
          have hBf := Below.trans B2 (hLS2.bel.mono B2.size)
          have hof := owns_low hLS2.own B2.size
          replace hP3 := hid hP3
          clear q1 q2
          replace hof := hid hof
          clear hLS2 hLS
          go_wp2_with fail
          go_ret2
          rw [hP3.out]
          exact ⟨.inr ⟨rfl, va, O.length, vc, rfl, rfl, hof.out⟩, hBf⟩

end Go.Proofs.YtomdghodbkhkaaaGreatDoor
