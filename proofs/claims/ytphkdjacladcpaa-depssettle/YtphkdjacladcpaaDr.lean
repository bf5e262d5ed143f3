/- Whether a dependency stands in a list; what is wrong with a list. -/
import Derived.Test.YtphkdjacladcpaaDh
namespace Go.Proofs.Ytphkdjacladcpaa
open Go.RowKit
set_option linter.unusedVariables false
set_option linter.unusedSimpArgs false

def isD (d x : Dp) : Bool := decide (x = d)
def twiceB (D : List Dp) (i : Nat) : Bool := (D.take i).any (isD (dpAt D i))
def errAt (D : List Dp) (next : Int) (i : Nat) : Int :=
  if kindB (dpAt D i).1 = false ∨ (dpAt D i).2 < 1 then 2 else if next ≤ (dpAt D i).2 then 200 else if twiceB D i = true then 140 else 0
/-- What Right tells. -/
def RT (D : List Dp) (next E : Int) : Prop :=
  (4 < D.length ∧ E = 3) ∨ (D.length ≤ 4 ∧ ((E = 0 ∧ ∀ m, m < D.length → errAt D next m = 0) ∨ (E ≠ 0 ∧ ∃ i, i < D.length ∧ errAt D next i = E ∧ ∀ m, m < i → errAt D next m = 0)))
theorem RT.uniq {D : List Dp} {next E E' : Int} (h : RT D next E) (h' : RT D next E') : E' = E := by
  rcases h with ⟨h1, h2⟩ | ⟨h1, h2⟩ <;> rcases h' with ⟨g1, g2⟩ | ⟨g1, g2⟩
  · rw [h2, g2]
  · omega
  · omega
  · rcases h2 with ⟨h2, h3⟩ | ⟨h2, i, h3, h4, h5⟩ <;> rcases g2 with ⟨g2, g3⟩ | ⟨g2, j, g3, g4, g5⟩
    · rw [h2, g2]
    · exact absurd ((g4.symm.trans (h3 j g3))) g2
    · exact absurd ((h4.symm.trans (g3 i h3))) h2
    · rcases Nat.lt_trichotomy i j with h | h | h
      · exact absurd (h4.symm.trans (g5 i h)) h2
      · subst h; rw [← h4, ← g4]
      · exact absurd (g4.symm.trans (h5 j h)) g2

set_option maxRecDepth 100000 in
set_option maxHeartbeats 1000000 in
theorem dfind_any (d : Dp) (a : Option Addr) (k c : Nat) (D : List Dp) (w : World) (hn : D.length = k) (hl : k ≤ 4611686018427387904) (hat : DAt w a D) :
    Calls Try.prog 39 #[.slice a k c, .agg (dc2 d).toArray] w fun e w' => (∃ i : Int, e = .returned (.int .i64 i) ∧ decide (0 ≤ i) = D.any (isD d)) ∧ Below w.heap.size w w' := by
  obtain ⟨K, I⟩ := d
  obtain ⟨W0, hW0⟩ : ∃ W0, W0 = w.alloc (.cells (dc2 (K, I)).toArray 51) := ⟨_, rfl⟩
  have bl0 := below_lit w (.cells (dc2 (K, I)).toArray 51)
  rw [← hW0] at bl0
  have c0 : W0.cell? ⟨w.heap.size, 0, none⟩ = some (.int .u8 K) := by rw [hW0]; exact lit_cell w 51 _ 0 _ rfl
  have c1 : W0.cell? ⟨w.heap.size, 1, none⟩ = some (.int .i64 I) := by rw [hW0]; exact lit_cell w 51 _ 1 _ rfl
  replace hn := hid hn
  replace hat := hid hat
  go_enter Try.func39, Try.ntmps39
  go_wp2_with fail
  rw [← hW0]
  replace hW0 := hid hW0
  go_loopw [8] (fun i wr => ∃ j : Nat, j ≤ k ∧ i = .int .i64 (j : Int) ∧ Hid (∀ m, m < j → isD (K, I) (dpAt D m) = false) ∧ Below W0.heap.size W0 wr) (fun i _ => k - (intOf i).toNat)
  case atStart => exact ⟨0, Nat.zero_le _, rfl, hid (fun i h => by omega), Below.refl _ _⟩
  case round =>
    obtain ⟨j, hj, rfl, hok, hb⟩ := hrel
    by_cases hlt : j < k
    · have hjL : j < D.length := by rw [hn.out]; exact hlt
      obtain ⟨b, o, e⟩ := hat.out.place (by omega)
      subst e
      have B1 := bnext bl0 hb
      have hcj := DAt.range (hat.out.below B1) hjL
      have x0 := hcj 0 _ rfl
      have x1 := hcj 1 _ rfl
      replace c0 := stay hb c0
      replace c1 := stay hb c1
      have hnx : isD (K, I) (dpAt D j) = false → ∀ m, m < j + 1 → isD (K, I) (dpAt D m) = false := fun h m hm => by
        rcases Nat.lt_or_ge m j with h1 | h1
        · exact hok.out m h1
        · obtain rfl : m = j := by omega
          exact h
      have hy : isD (K, I) (dpAt D j) = true → D.any (isD (K, I)) = true := any_yes hjL
      generalize dpAt D j = X at *
      obtain ⟨X0, X1⟩ := X
      replace x0 : wr.cell? ⟨b, o + j * 2, none⟩ = some (.int .u8 X0) := x0
      replace x1 : wr.cell? ⟨b, o + j * 2 + 1, none⟩ = some (.int .i64 X1) := x1
      clear hcj
      by_cases hK : K = X0
      · by_cases hI : I = X1
        · subst hK hI
          have hy2 := hid (hy (by simp [isD]))
          clear hy hnx
          go_wp2_with fail
          go_quiet (fail)
          go_wp2_with fail
          go_ret
          exact ⟨⟨(j : Int), rfl, by rw [hy2.out]; exact decide_eq_true (by omega)⟩, bnext bl0 (below_drewN hb _)⟩
        · subst hK
          have hnx2 := hid (hnx (by simp [isD]; exact fun h => hI h.symm))
          have dI : (I == X1) = false := by simpa using hI
          clear hy hnx
          go_wp2_with fail
          go_quiet (fail)
          go_wp2_with fail
          go_roundw
          case rel => exact ⟨j + 1, by omega, by go_num, hnx2, below_drewN hb _⟩
          case measure => simp [intOf]; omega
      · have hnx2 := hid (hnx (by simp [isD]; exact fun h => absurd h.symm hK))
        have dK : (K == X0) = false := by simpa using hK
        clear hy hnx
        go_wp2_with fail
        go_quiet (fail)
        go_wp2_with fail
        go_roundw
        case rel => exact ⟨j + 1, by omega, by go_num, hnx2, below_drewN hb _⟩
        case measure => simp [intOf]; omega
    · have hje : j = k := by omega
      subst hje
      go_wp2
      go_ret
      exact ⟨⟨-1, rfl, by rw [any_no (fun m hm => hok.out m (by rw [← hn.out]; exact hm))]; rfl⟩, bnext bl0 hb⟩

end Go.Proofs.Ytphkdjacladcpaa
