/- The document's cut: its plain side. -/
import Derived.Test.YtomdghodbkhkaaaGreatDoorRnb
namespace Go.Proofs.YtomdghodbkhkaaaGreatDoor
open Go.RowKit
set_option linter.unusedVariables false
set_option linter.unusedSimpArgs false

/-- The last one has a byte more. -/
def lastB (T : List (List UInt8)) (b : UInt8) : List (List UInt8) := T.set (T.length - 1) (T.getD (T.length - 1) [] ++ [b])
theorem lastB_cons {T : List (List UInt8)} (h : T ≠ []) (x : List UInt8) (b : UInt8) : lastB (x :: T) b = x :: lastB T b := by
  obtain ⟨y, t, rfl⟩ := List.exists_cons_of_ne_nil h
  unfold lastB
  simp
theorem lastB_len (T : List (List UInt8)) (b : UInt8) : (lastB T b).length = T.length := by unfold lastB; simp
theorem pcs_hit (c : UInt8) (t : List UInt8) : pcs c (c :: t) = [] :: pcs c t := by simp [pcs]
theorem pcs_miss {c x : UInt8} (h : x ≠ c) {t p : List UInt8} {ps : List (List UInt8)} (hp : pcs c t = p :: ps) : pcs c (x :: t) = (x :: p) :: ps := by simp [pcs, h, hp]
theorem pcs_snoc (c : UInt8) (l : List UInt8) (b : UInt8) : pcs c (l ++ [b]) = if b = c then pcs c l ++ [[]] else lastB (pcs c l) b := by
  induction l with
  | nil =>
    by_cases h : b = c
    · subst h; simp [pcs]
    · simp [pcs, h, lastB]
  | cons x t ih =>
    obtain ⟨p, ps, hp⟩ := List.exists_cons_of_ne_nil (pcs_ne c t)
    rw [List.cons_append]
    by_cases hx : x = c
    · subst hx
      rw [pcs_hit, pcs_hit, ih]
      by_cases hb : b = x
      · rw [if_pos hb, if_pos hb]; rfl
      · rw [if_neg hb, if_neg hb, lastB_cons (pcs_ne _ _)]
    · rw [pcs_miss hx hp]
      by_cases hb : b = c
      · rw [if_pos hb] at ih ⊢
        rw [hp] at ih
        rw [pcs_miss hx ih]; rfl
      · rw [if_neg hb] at ih ⊢
        rw [hp] at ih
        rcases ps with _ | ⟨q, r⟩
        · have e : lastB [p] b = [p ++ [b]] := by simp [lastB]
          rw [e] at ih
          rw [pcs_miss hx ih]
          simp [lastB]
        · rw [lastB_cons (by simp)] at ih
          rw [pcs_miss hx ih, lastB_cons (T := q :: r) (by simp) (x :: p)]
theorem pcs_take {c : UInt8} {l : List UInt8} {j : Nat} (h : j < l.length) : pcs c (l.take (j + 1)) = if l[j] = c then pcs c (l.take j) ++ [[]] else lastB (pcs c (l.take j)) l[j] := by
  rw [take_more h, pcs_snoc]
end Go.Proofs.YtomdghodbkhkaaaGreatDoor
