/- What has become of a dependency: the document's side; each dependency is asked. -/
import Derived.Test.YtphkdjacladcpaaDf
namespace Go.Proofs.Ytphkdjacladcpaa
open Go.RowKit
set_option linter.unusedVariables false
set_option linter.unusedSimpArgs false

set_option maxRecDepth 100000 in
set_option maxHeartbeats 1000000 in
theorem settled_any (d : Dp) (a : Option Addr) (k c : Nat) (L : List Job) (w : World) (hn : L.length = k) (hl : k ≤ 4611686018427387904) (hat : JAt w a L) :
    Calls Try.prog 26 #[.agg (dc2 d).toArray, .slice a k c] w fun e w' => e = .returned (.int .i64 (fate d L)) ∧ Below w.heap.size w w' := by
  obtain ⟨K, I⟩ := d
  obtain ⟨W0, hW0⟩ : ∃ W0, W0 = w.alloc (.cells (dc2 (K, I)).toArray 51) := ⟨_, rfl⟩
  have bl0 := below_lit w (.cells (dc2 (K, I)).toArray 51)
  rw [← hW0] at bl0
  have c0 : W0.cell? ⟨w.heap.size, 0, none⟩ = some (.int .u8 K) := by rw [hW0]; exact lit_cell w 51 _ 0 _ rfl
  have c1 : W0.cell? ⟨w.heap.size, 1, none⟩ = some (.int .i64 I) := by rw [hW0]; exact lit_cell w 51 _ 1 _ rfl
  have c1u := c1
  rw [hW0] at c1u
  have kF := rfind_any a k c L I W0 hn hl (hat.below bl0)
  replace hn := hid hn
  replace hat := hid hat
  go_enter Try.func26, Try.ntmps26
  go_wp2_with (fail)
  rw [← hW0]
  refine kF.mono ?_
  rintro e w1 ⟨⟨i, ok, rfl, hFI⟩, hb1⟩
  have B1 := bnext bl0 hb1
  replace c0 := stay hb1 c0
  replace c1 := stay hb1 c1
  rcases hFI with ⟨rfl, n, rfl, hk, he, hno⟩ | ⟨rfl, rfl, hno⟩
  · have hlk := lk_some hk he hno
    obtain ⟨b, o, e⟩ := hat.out.place (by omega)
    subst e
    have x11 := ((hat.out.below B1).cell hk 11 (by omega))
    replace x11 : w1.cell? ⟨b, o + n * 17 + 11, none⟩ = some (.int .u8 (jobAt L n).st) := x11
    have hnk : n < k := by have := hn.out; omega
    have hf : fate (K, I) L = fateJ K (some (jobAt L n)) := by unfold fate; dsimp only; rw [hlk]
    generalize jobAt L n = J at *
    have kO := fun w => rover_any J.st w
    replace hf := hid hf
    replace hlk := hid hlk
    replace he := hid he
    replace hno := hid hno
    replace hW0 := hid hW0
    by_cases h1 : K < 1
    · have hA : kindB K = false := by unfold kindB; simp; omega
      have d1 : decide (K < 1) = true := by simpa using h1
      replace h1 := hid h1
      go_wp2_with fail
      go_ret
      exact ⟨ret_int (by rw [hf.out]; unfold fateJ; simp [hA]), B1⟩
    · have d1 : decide (K < 1) = false := by simpa using h1
      by_cases h2 : 3 < K
      · have hA : kindB K = false := by unfold kindB; simp; omega
        have d2 : decide (3 < K) = true := by simpa using h2
        replace h1 := hid h1
        replace h2 := hid h2
        go_wp2_with fail
        go_ret
        exact ⟨ret_int (by rw [hf.out]; unfold fateJ; simp [hA]), B1⟩
      · have hA : kindB K = true := by unfold kindB; simp; omega
        have d2 : decide (3 < K) = false := by simpa using h2
        obtain ⟨S, hS0⟩ : ∃ S, S = J.st := ⟨_, rfl⟩
        rw [← hS0] at x11 kO
        replace hS0 := hid hS0
        replace h1 := hid h1
        replace h2 := hid h2
        go_wp2_with fail
        refine (kO _).mono ?_
        rintro e w3 ⟨rfl, rfl⟩
        cases hB : overB S with
        | false =>
          go_wp2_with fail
          go_ret
          exact ⟨ret_int (by rw [hf.out]; unfold fateJ; simp [hA, ← hS0.out, hB]), B1⟩
        | true =>
          have hKs : K = 1 ∨ K = 2 ∨ K = 3 := by have := h1.out; have := h2.out; omega
          replace hB := hid hB
          replace hA := hid hA
          rcases hKs with rfl | rfl | rfl
          · go_wp2_with fail
            go_ret
            exact ⟨ret_int (by rw [hf.out]; unfold fateJ endB; simp [hA.out, ← hS0.out, hB.out, compB, othB]), B1⟩
          · by_cases hS : S = 3
            · subst hS
              go_wp2_with fail
              go_ret
              exact ⟨ret_int (by rw [hf.out]; unfold fateJ endB; simp [hA.out, ← hS0.out, hB.out, compB, othB]), B1⟩
            · have dS : (S == 3) = false := by simpa using hS
              go_wp2_with fail
              go_ret
              exact ⟨ret_int (by rw [hf.out]; unfold fateJ endB; simp [hA.out, ← hS0.out, hB.out, compB, othB, hS]), B1⟩
          · by_cases hS : S = 3
            · subst hS
              go_wp2_with fail
              go_ret
              exact ⟨ret_int (by rw [hf.out]; unfold fateJ endB; simp [hA.out, ← hS0.out, hB.out, compB, othB]), B1⟩
            · have dS : (S == 3) = false := by simpa using hS
              go_wp2_with fail
              go_ret
              exact ⟨ret_int (by rw [hf.out]; unfold fateJ endB; simp [hA.out, ← hS0.out, hB.out, compB, othB, hS]), B1⟩
  · have hlk := lk_none hno
    go_wp2_with fail
    go_ret
    exact ⟨ret_int (by unfold fate; dsimp only; rw [hlk]; rfl), B1⟩

theorem DAt.range {w : World} {b o : Nat} {C : List Dp} (h : DAt w (some ⟨b, o, none⟩) C) {i : Nat} (hi : i < C.length) : w.rangeAt b (o + i * 2) (dc2 (dpAt C i)) := by
  intro r v hv
  have hr : r < 2 := by
    rcases Nat.lt_or_ge r 2 with h1 | h1
    · exact h1
    · rw [List.getElem?_eq_none (by rw [dc2_len]; exact h1)] at hv; cases hv
  have := flat_cell dc2 2 dc2_len (by omega) h hi r hr
  simp only [dpAt_eq hi] at this
  rw [this]
  rw [List.getElem?_eq_getElem (by rw [dc2_len]; exact hr)] at hv
  exact hv

def heldB (L : List Job) (d : Dp) : Bool := fate d L != 1
def lostB (L : List Job) (d : Dp) : Bool := fate d L == 2

set_option maxRecDepth 100000 in
theorem held_cl (d : Dp) (g : Nat) (a : Option Addr) (k c : Nat) (L : List Job) (w : World) (hn : L.length = k) (hl : k ≤ 4611686018427387904) (hat : JAt w a L) (hg : w.cell? ⟨g, 0, none⟩ = some (.slice a k c)) :
    Calls Try.prog 24 #[.agg (dc2 d).toArray, ptr g] w fun e w' => e = .returned (.bool (heldB L d)) ∧ Below w.heap.size w w' := by
  have bl := below_lit w (.cells (dc2 d).toArray 51)
  have row : (w.alloc (.cells (dc2 d).toArray 51)).heap[w.heap.size]? = some (.cells (dc2 d).toArray 51 (0, 0)) := heap_alloc_new w _
  have hlt := World.block_lt_of_cell? _ _ hg
  have hg2 := stay bl hg
  have kF := fate_any d a k c L _ hn hl (hat.below bl)
  replace hn := hid hn
  replace hat := hid hat
  replace row := hid row
  go_enter Try.func24, Try.ntmps24
  go_wp2_with (refine wpList_load_row rfl 51 (.tmp 2) rfl w.heap.size rfl 51 (dc2 d).toArray (0, 0) _ row.out Try.underlying51 rfl (by kernel_rfl) ?_)
  refine kF.mono ?_
  rintro e w1 ⟨rfl, hb1⟩
  go_wp2_with fail
  go_ret
  exact ⟨rfl, bnext bl hb1⟩

set_option maxRecDepth 100000 in
theorem lost_cl (d : Dp) (g : Nat) (a : Option Addr) (k c : Nat) (L : List Job) (w : World) (hn : L.length = k) (hl : k ≤ 4611686018427387904) (hat : JAt w a L) (hg : w.cell? ⟨g, 0, none⟩ = some (.slice a k c)) :
    Calls Try.prog 27 #[.agg (dc2 d).toArray, ptr g] w fun e w' => e = .returned (.bool (lostB L d)) ∧ Below w.heap.size w w' := by
  have bl := below_lit w (.cells (dc2 d).toArray 51)
  have row : (w.alloc (.cells (dc2 d).toArray 51)).heap[w.heap.size]? = some (.cells (dc2 d).toArray 51 (0, 0)) := heap_alloc_new w _
  have hlt := World.block_lt_of_cell? _ _ hg
  have hg2 := stay bl hg
  have kF := fate_any d a k c L _ hn hl (hat.below bl)
  replace hn := hid hn
  replace hat := hid hat
  replace row := hid row
  go_enter Try.func27, Try.ntmps27
  go_wp2_with (refine wpList_load_row rfl 51 (.tmp 2) rfl w.heap.size rfl 51 (dc2 d).toArray (0, 0) _ row.out Try.underlying51 rfl (by kernel_rfl) ?_)
  refine kF.mono ?_
  rintro e w1 ⟨rfl, hb1⟩
  go_wp2_with fail
  go_ret
  exact ⟨rfl, bnext bl hb1⟩

end Go.Proofs.Ytphkdjacladcpaa
