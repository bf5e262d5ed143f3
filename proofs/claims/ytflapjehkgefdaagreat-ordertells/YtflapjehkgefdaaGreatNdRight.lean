/- Whether a list of nodes is right; a place in it. -/
import Derived.Test.YtflapjehkgefdaaGreatNdMem
namespace Go.Proofs.YtflapjehkgefdaaGreat.Nd
open Go.RowKit

def AllTo (L : List Nod) (j : Nat) : Prop := ∀ x ∈ L.take j, nodB x = true

theorem AllTo.zero (L : List Nod) : AllTo L 0 := fun x hx => by simp at hx
theorem AllTo.next {L : List Nod} {j : Nat} (h : AllTo L j) (hj : j < L.length) (h1 : nodB (nodAt L j) = true) : AllTo L (j + 1) := by
  intro x hx
  rw [take_more hj] at hx
  rcases List.mem_append.1 hx with h2 | h2
  · exact h x h2
  · simp at h2; subst h2; rw [nodAt_eq hj]; exact h1
theorem AllTo.all {L : List Nod} (h : AllTo L L.length) : L.all nodB = true := by
  rw [List.all_eq_true]
  intro x hx
  exact h x (by rw [List.take_length]; exact hx)
theorem all_no {L : List Nod} {j : Nat} (hj : j < L.length) (h : nodB (nodAt L j) = false) : L.all nodB = false := by
  rw [List.all_eq_false]
  exact ⟨L[j], List.getElem_mem hj, by rw [nodAt_eq hj, h]; simp⟩

set_option maxRecDepth 100000 in
set_option maxHeartbeats 400000 in
theorem index_any (a : Option Addr) (n c : Nat) (L : List Nod) (w : World) (hn : L.length = n) (hl : n ≤ 4611686018427387904) (hat : DAt w a L) :
    Calls Tryz.prog 104 #[.slice a n c, .func (.func 92) #[] #[]] w fun e w' => ∃ k : Int, e = .returned (.int .i64 k) ∧ decide (0 ≤ k) = (!L.all nodB) ∧ Below w.heap.size w w' := by
  replace hn := hid hn
  replace hat := hid hat
  go_enter Tryz.func104, Tryz.ntmps104
  go_wp2_with fail
  go_loopw [8] (fun i wr => ∃ j : Nat, j ≤ n ∧ i = .int .i64 (j : Int) ∧ Hid (AllTo L j) ∧ Below w.heap.size w wr) (fun i _ => n - (intOf i).toNat)
  case atStart => exact ⟨0, Nat.zero_le _, rfl, hid (AllTo.zero L), Below.refl _ _⟩
  case round =>
    obtain ⟨j, hj, rfl, hok, hb⟩ := hrel
    by_cases hlt : j < n
    · have hjL : j < L.length := by rw [hn.out]; exact hlt
      obtain ⟨b, o, e⟩ := hat.out.place (by omega)
      subst e
      obtain ⟨x0, x1, x2⟩ := (hat.out.below hb).one hjL
      have kN := fun w => notnode_any (nodAt L j).1 (nodAt L j).2.1 (nodAt L j).2.2 w
      cases hB : nodB (nodAt L j)
      · have hf := hid (all_no hjL hB)
        rw [show ((nodAt L j).1, (nodAt L j).2.1, (nodAt L j).2.2) = nodAt L j from rfl, hB] at kN
        replace hB := hid hB
        generalize nodAt L j = X at *
        obtain ⟨X0, X1, X2⟩ := X
        dsimp only at *
        go_wp2_with fail
        refine (kN _).mono ?_
        rintro e w1 ⟨rfl, hb1⟩
        have B1 := bnext hb hb1
        go_wp2
        go_ret
        exact ⟨_, rfl, by rw [hf.out]; simp, B1⟩
      · have hok2 := hid (hok.out.next hjL hB)
        rw [show ((nodAt L j).1, (nodAt L j).2.1, (nodAt L j).2.2) = nodAt L j from rfl, hB] at kN
        replace hB := hid hB
        generalize nodAt L j = X at *
        obtain ⟨X0, X1, X2⟩ := X
        dsimp only at *
        go_wp2_with fail
        refine (kN _).mono ?_
        rintro e w1 ⟨rfl, hb1⟩
        have B1 := bnext hb hb1
        go_wp2_with fail
        go_roundw
        case rel => exact ⟨j + 1, by omega, by go_num, hok2, B1⟩
        case measure => simp [intOf]; omega
    · have hje : j = n := by omega
      subst hje
      have hf := hid (AllTo.all (L := L) (by rw [hn.out]; exact hok.out))
      go_wp2
      go_ret
      exact ⟨_, rfl, by rw [hf.out]; rfl, hb⟩

theorem contains_any (a : Option Addr) (n c : Nat) (L : List Nod) (w : World) (hn : L.length = n) (hl : n ≤ 4611686018427387904) (hat : DAt w a L) :
    Calls Tryz.prog 91 #[.slice a n c, .func (.func 92) #[] #[]] w fun e w' => e = .returned (.bool (!L.all nodB)) ∧ Below w.heap.size w w' := by
  have kI := index_any a n c L w hn hl hat
  generalize L.all nodB = B at *
  replace hat := hid hat
  replace hn := hid hn
  go_enter Tryz.func91, Tryz.ntmps91
  go_wp2_with fail
  refine kI.mono ?_
  rintro e w1 ⟨k, rfl, hk, hb⟩
  replace hk := hid hk
  go_wp2
  go_ret
  refine ⟨ret_bool ?_, hb⟩
  rw [← hk.out]

theorem right_no {L : List Nod} (h : ¬ (1 ≤ L.length ∧ L.length ≤ 32)) : rightB L = false := by simp only [rightB, decide_eq_false h, Bool.false_and]
theorem right_len {L : List Nod} (h : 1 ≤ L.length ∧ L.length ≤ 32) : rightB L = L.all nodB := by simp only [rightB, decide_eq_true h, Bool.true_and]
theorem right_is {L : List Nod} (h : rightB L = true) : (1 ≤ L.length ∧ L.length ≤ 32) ∧ ∀ x ∈ L, nodB x = true := by
  unfold rightB at h
  rw [Bool.and_eq_true, decide_eq_true_eq, List.all_eq_true] at h
  exact h

theorem right_any (a : Option Addr) (n c : Nat) (L : List Nod) (w : World) (hn : L.length = n) (hl : n ≤ 4611686018427387904) (hat : DAt w a L) :
    Calls Tryz.prog 82 #[.slice a n c] w fun e w' => e = .returned (.bool (rightB L)) ∧ Below w.heap.size w w' := by
  have kC := contains_any a n c L w hn hl hat
  by_cases h1 : n < 1
  · have hf := hid (right_no (L := L) (by omega))
    have d1 : decide (n < 1) = true := by simpa using h1
    have d1' : decide ((n : Int) < 1) = true := by simp; omega
    replace hn := hid hn
    replace hat := hid hat
    go_enter Tryz.func82, Tryz.ntmps82
    go_wp2
    go_ret
    rw [hf.out]; exact ⟨rfl, Below.refl _ _⟩
  · have d1 : decide ((n : Int) < 1) = false := by simp; omega
    by_cases h2 : 32 < n
    · have hf := hid (right_no (L := L) (by omega))
      have d2 : decide ((32 : Int) < (n : Int)) = true := by simp; omega
      replace hn := hid hn
      replace hat := hid hat
      go_enter Tryz.func82, Tryz.ntmps82
      go_wp2
      go_ret
      rw [hf.out]; exact ⟨rfl, Below.refl _ _⟩
    · have d2 : decide ((32 : Int) < (n : Int)) = false := by simp; omega
      have hf := hid (right_len (L := L) (by omega))
      generalize L.all nodB = B at *
      replace hn := hid hn
      replace hat := hid hat
      go_enter Tryz.func82, Tryz.ntmps82
      go_wp2_with fail
      refine kC.mono ?_
      rintro e w1 ⟨rfl, hb⟩
      go_wp2
      go_ret
      rw [hf.out]
      refine ⟨ret_bool ?_, hb⟩
      cases B <;> rfl

def placeB (n : Nat) (i : Int) : Bool := decide (0 ≤ i ∧ i < (n : Int))

end Go.Proofs.YtflapjehkgefdaaGreat.Nd
