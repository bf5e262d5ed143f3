/- What has become of a dependency, on both sides. -/
import Derived.Test.YtphkdjacladcpaaDe
import Derived.Test.YtphkdjacladcpaaFnd
namespace Go.Proofs.Ytphkdjacladcpaa
open Go.RowKit
set_option linter.unusedVariables false
set_option linter.unusedSimpArgs false

def endB (k st : Int) : Bool := if st = 3 then compB k else othB k
def fateJ (k : Int) : Option Job → Int
  | none => 2
  | some j => if kindB k = true then (if overB j.st = true then (if endB k j.st = true then 1 else 2) else 0) else 2
def lk (L : List Job) (id : Int) : Option Job := L.find? (fun j => decide (j.id = id))
def fate (d : Dp) (L : List Job) : Int := fateJ d.1 (lk L d.2)

theorem lk_none {L : List Job} {id : Int} (h : NoTo L id L.length) : lk L id = none := by
  unfold lk
  rw [List.find?_eq_none]
  intro j hj
  obtain ⟨i, hi, rfl⟩ := List.getElem_of_mem hj
  have := h i hi
  rw [← jobAt_eq hi] at this
  simpa using this
theorem lk_some {L : List Job} {id : Int} {k : Nat} (hk : k < L.length) (he : (jobAt L k).id = id) (h : NoTo L id k) : lk L id = some (jobAt L k) := by
  unfold lk
  rw [List.find?_eq_some_iff_getElem]
  refine ⟨by simpa using he, k, hk, by rw [jobAt_eq], fun j hj => ?_⟩
  have := h j hj
  rw [← jobAt_eq (by omega)] at this
  simpa using this

set_option maxRecDepth 100000 in
set_option maxHeartbeats 1000000 in
theorem fate_any (d : Dp) (a : Option Addr) (k c : Nat) (L : List Job) (w : World) (hn : L.length = k) (hl : k ≤ 4611686018427387904) (hat : JAt w a L) :
    Calls Try.prog 25 #[.agg (dc2 d).toArray, .slice a k c] w fun e w' => e = .returned (.int .i64 (fate d L)) ∧ Below w.heap.size w w' := by
  obtain ⟨K, I⟩ := d
  obtain ⟨W0, hW0⟩ : ∃ W0, W0 = w.alloc (.cells (dc2 (K, I)).toArray 51) := ⟨_, rfl⟩
  have bl0 := below_lit w (.cells (dc2 (K, I)).toArray 51)
  rw [← hW0] at bl0
  have c0 : W0.cell? ⟨w.heap.size, 0, none⟩ = some (.int .u8 K) := by rw [hW0]; exact lit_cell w 51 _ 0 _ rfl
  have c1 : W0.cell? ⟨w.heap.size, 1, none⟩ = some (.int .i64 I) := by rw [hW0]; exact lit_cell w 51 _ 1 _ rfl
  have c1u := c1
  rw [hW0] at c1u
  have kF := find_any a k c L I W0 hn hl (hat.below bl0)
  have kK := fun w => iskind_any K w
  have kE := fun w => ends_any K w
  replace hn := hid hn
  replace hat := hid hat
  go_enter Try.func25, Try.ntmps25
  go_wp2_with (fail)
  rw [← hW0]
  refine kF.mono ?_
  rintro e w1 ⟨⟨i, ok, rfl, hFI⟩, hb1⟩
  have B1 := bnext bl0 hb1
  replace c0 := stay hb1 c0
  replace c1 := stay hb1 c1
  rcases hFI with ⟨rfl, n, rfl, hk, he, hno⟩ | ⟨rfl, rfl, hno⟩
  · have hlk := lk_some hk he hno
    obtain ⟨b, o, e⟩ := hat.out.place (by omega)
    subst e
    have x11 := ((hat.out.below B1).cell hk 11 (by omega))
    replace x11 : w1.cell? ⟨b, o + n * 17 + 11, none⟩ = some (.int .u8 (jobAt L n).st) := x11
    have hnk : n < k := by have := hn.out; omega
    have hf : fate (K, I) L = fateJ K (some (jobAt L n)) := by unfold fate; dsimp only; rw [hlk]
    generalize jobAt L n = J at *
    have kO := fun w => over_any J.st w
    replace hf := hid hf
    replace hlk := hid hlk
    replace he := hid he
    replace hno := hid hno
    replace hW0 := hid hW0
    cases hA : kindB K with
    | false =>
      rw [hA] at kK
      go_wp2_with fail
      refine (kK _).mono ?_
      rintro e w2 ⟨rfl, hb2⟩
      go_wp2_with fail
      go_ret
      exact ⟨ret_int (by rw [hf.out]; unfold fateJ; simp [hA]), bnext B1 hb2⟩
    | true =>
      rw [hA] at kK
      go_wp2_with fail
      refine (kK _).mono ?_
      rintro e w2 ⟨rfl, hb2⟩
      have B2 := bnext B1 hb2
      replace c0 := stay hb2 c0
      replace x11 := stay hb2 x11
      obtain ⟨S, hS0⟩ : ∃ S, S = J.st := ⟨_, rfl⟩
      rw [← hS0] at x11 kO
      replace hS0 := hid hS0
      go_wp2_with fail
      refine (kO _).mono ?_
      rintro e w3 ⟨rfl, rfl⟩
      cases hB : overB S with
      | false =>
        go_wp2_with fail
        go_ret
        exact ⟨ret_int (by rw [hf.out]; unfold fateJ; simp [hA, ← hS0.out, hB]), B2⟩
      | true =>
        go_wp2_with fail
        refine (kE _).mono ?_
        rintro e w4 ⟨rfl, hb4⟩
        have B4 := bnext B2 hb4
        by_cases hS : S = 3
        · subst hS
          cases hC : compB K <;> cases hO : othB K
          all_goals
            go_wp2_with fail
            go_ret
            exact ⟨ret_int (by rw [hf.out]; unfold fateJ endB; simp [hA, ← hS0.out, hB, hC, hO]), bnext B4 (below_lit _ _)⟩
        · have dS : (S == 3) = false := by simpa using hS
          have dS2 : (S != 3) = true := by simpa using hS
          cases hC : compB K <;> cases hO : othB K
          all_goals
            go_wp2_with fail
            go_ret
            exact ⟨ret_int (by rw [hf.out]; unfold fateJ endB; simp [hA, ← hS0.out, hB, hS, hC, hO]), bnext B4 (below_lit _ _)⟩
  · have hlk := lk_none hno
    go_wp2_with fail
    go_ret
    exact ⟨ret_int (by unfold fate; dsimp only; rw [hlk]; rfl), B1⟩

end Go.Proofs.Ytphkdjacladcpaa
