/- How many nodes of a set are such; whether a partition's nodes are there, and enough. -/
import Derived.Test.YtflapjehkgefdaaGreatRw
import Derived.Test.YtflapjehkgefdaaGreatNdNr2
import Derived.Test.YtflapjehkgefdaaGreatNdList
import Derived.Test.YtflapjehkgefdaaGreatUse
namespace Go.Proofs.YtflapjehkgefdaaGreat
open Go.RowKit

/-- How many of the first j nodes of s are such. -/
def cfT (s : Nat) (b : Nat → Bool) (j : Nat) : Nat := (((Nd.lst s).take j).filter b).length
def cf (s : Nat) (b : Nat → Bool) : Nat := ((Nd.lst s).filter b).length
theorem cfT_all (s : Nat) (b : Nat → Bool) : cfT s b (Nd.lst s).length = cf s b := by unfold cfT cf; rw [List.take_length]
theorem cfT_zero (s : Nat) (b : Nat → Bool) : cfT s b 0 = 0 := by simp [cfT]
theorem cfT_yes {s : Nat} {b : Nat → Bool} {j : Nat} (hj : j < (Nd.lst s).length) (h : b (Nd.lst s)[j] = true) : cfT s b (j + 1) = cfT s b j + 1 := by
  unfold cfT; rw [take_more hj, List.filter_append]; simp [h]
theorem cfT_no {s : Nat} {b : Nat → Bool} {j : Nat} (hj : j < (Nd.lst s).length) (h : b (Nd.lst s)[j] = false) : cfT s b (j + 1) = cfT s b j := by
  unfold cfT; rw [take_more hj, List.filter_append]; simp [h]
theorem cfT_le (s : Nat) (b : Nat → Bool) (j : Nat) : cfT s b j ≤ 32 := by
  unfold cfT
  have h1 := List.length_filter_le b ((Nd.lst s).take j)
  have h2 : (Nd.lst s).length ≤ 32 := Nd.cnt_le s
  rw [List.length_take] at h1
  omega
theorem lst_lt {s j : Nat} (hj : j < (Nd.lst s).length) : (Nd.lst s)[j] < 32 := (Nd.mem_lst.1 (List.getElem_mem hj)).1
theorem lst_bit {s j : Nat} (hj : j < (Nd.lst s).length) : s.testBit (Nd.lst s)[j] = true := (Nd.mem_lst.1 (List.getElem_mem hj)).2
theorem L2_len (l : List Nat) : (Nd.L2 l).length = l.length := by simp [Nd.L2]
theorem L2_at {l : List Nat} {j : Nat} (hj : j < l.length) : (Nd.L2 l)[j]'(by rw [L2_len]; exact hj) = ((l[j] : Nat) : Int) := by simp [Nd.L2]

set_option maxRecDepth 100000 in
set_option maxHeartbeats 400000 in
theorem count96 (s g : Nat) (b : Nat → Bool) (hs : s < 4294967296) (w : World)
    (hstep : ∀ i w', i < 32 → s.testBit i = true → Below w.heap.size w w' → Calls Tryz.prog 97 #[.int .i64 (i : Int), ptr g] w' fun e w2 => e = .returned (.bool (b i)) ∧ Below w'.heap.size w' w2) :
    Calls Tryz.prog 96 #[.int .u32 (s : Int), .func (.func 97) #[] #[ptr g]] w fun e w' => e = .returned (.int .i64 ((cf s b : Nat) : Int)) ∧ Below w.heap.size w w' := by
  have kL := Nd.list_any s hs w
  have hk32 : (Nd.lst s).length ≤ 32 := Nd.cnt_le s
  go_enter Tryz.func96, Tryz.ntmps96
  go_wp2_with fail
  refine kL.mono ?_
  rintro e w1 ⟨v, rfl, hown, hb1⟩
  obtain ⟨a, c, rfl, hkc⟩ := owns_form hown
  have hat : Hid (CAt w1 a ((Nd.L2 (Nd.lst s)).map Nd.I)) := hid (owns_cat hown)
  rw [L2_len] at hkc ⊢
  clear hown
  generalize hkk : (Nd.lst s).length = k at *
  replace hkk := hid hkk
  go_wp2_with fail
  go_loopw [5, 11] (fun v i wr => ∃ j : Nat, j ≤ k ∧ i = .int .i64 (j : Int) ∧ v = .int .i64 ((cfT s b j : Nat) : Int) ∧ Below w1.heap.size w1 wr) (fun _ i _ => k - (intOf i).toNat)
  case atStart => exact ⟨0, Nat.zero_le _, rfl, by rw [cfT_zero]; rfl, Below.refl _ _⟩
  case round =>
    obtain ⟨j, hj, rfl, rfl, hb⟩ := hrel
    have hcl := cfT_le s b j
    by_cases hlt : j < k
    · have hjL : j < (Nd.lst s).length := by rw [hkk.out]; exact hlt
      obtain ⟨pb, po, e⟩ := Nd.iat_place hat.out (by intro e; have := L2_len (Nd.lst s); rw [e] at this; simp at this; omega)
      subst e
      have x0 := Nd.iat_cell (CAt.below hat.out hb) j (by rw [L2_len]; exact hjL)
      rw [L2_at hjL] at x0
      have hl32 := lst_lt hjL
      have hbit := hid (lst_bit hjL)
      have kS := hstep (Nd.lst s)[j] wr hl32 hbit.out (bnext hb1 hb)
      by_cases hB : b (Nd.lst s)[j] = true
      · have hn := hid (cfT_yes hjL hB)
        rw [hB] at kS
        replace hB := hid hB
        generalize (Nd.lst s)[j] = X at *
        generalize hq : cfT s b j = q at *
        replace hq := hid hq
        go_wp2_with fail
        refine kS.mono ?_
        rintro e w2 ⟨rfl, hb2⟩
        go_wp2_with fail
        go_roundw
        case rel => exact ⟨j + 1, by omega, by go_num, by rw [hn.out]; go_num, bnext hb hb2⟩
        case measure => simp [intOf]; omega
      · replace hB : b (Nd.lst s)[j] = false := by simpa using hB
        have hn := hid (cfT_no hjL hB)
        rw [hB] at kS
        replace hB := hid hB
        generalize (Nd.lst s)[j] = X at *
        generalize hq : cfT s b j = q at *
        replace hq := hid hq
        go_wp2_with fail
        refine kS.mono ?_
        rintro e w2 ⟨rfl, hb2⟩
        go_wp2_with fail
        go_roundw
        case rel => exact ⟨j + 1, by omega, by go_num, by rw [hn.out], bnext hb hb2⟩
        case measure => simp [intOf]; omega
    · have hje : j = k := by omega
      subst hje
      have hf := hid (show cfT s b j = cf s b by rw [← hkk.out]; exact cfT_all s b)
      generalize hq : cfT s b j = q at *
      replace hq := hid hq
      go_wp2
      go_ret
      exact ⟨ret_int (by rw [hf.out]), bnext hb1 hb⟩


theorem is96 (i g : Nat) (ca : Option Addr) (cn cc : Nat) (w : World) (hg : w.cell? ⟨g, 0, none⟩ = some (.slice ca cn cc)) :
    Calls Tryz.prog 97 #[.int .i64 (i : Int), ptr g] w fun r w' => r = .returned (.bool (decide (cn ≤ i))) ∧ Below w.heap.size w w' := by
  have hlt := World.block_lt_of_cell? w _ hg
  by_cases h : cn ≤ i
  · have h1 : (cn : Int) ≤ (i : Int) := by omega
    rw [decide_eq_true h]
    go_enter Tryz.func97, Tryz.ntmps97
    go_wp2
    go_ret
    exact ⟨rfl, Below.refl _ _⟩
  · have h1 : ¬ (cn : Int) ≤ (i : Int) := by omega
    rw [decide_eq_false h]
    go_enter Tryz.func97, Tryz.ntmps97
    go_wp2
    go_ret
    exact ⟨rfl, Below.refl _ _⟩

/-- It has a node, and none from n on. -/
def strB (n : Nat) (i : Nat) : Bool := decide (n ≤ i)
def setB (n s : Nat) : Bool := decide (0 < Nd.cnt s) && decide (cf s (strB n) = 0)

set_option maxRecDepth 100000 in
theorem nodes_any (ca : Option Addr) (cn cc s : Nat) (hs : s < 4294967296) (w : World) :
    Calls Tryz.prog 84 #[.slice ca cn cc, .int .u32 (s : Int)] w fun e w' => e = .returned (.bool (setB cn s)) ∧ Below w.heap.size w w' := by
  have bl := below_lit w (.cells #[.slice ca cn cc] 22)
  have hc := cell_new w (.slice ca cn cc) 22
  have k1 := count96 s w.heap.size (strB cn) hs (w.alloc (.cells #[.slice ca cn cc] 22)) (fun i w' _ _ hb => is96 i _ ca cn cc w' (stay hb hc))
  have k2 := fun w' => Nd.count_any s hs w'
  replace hc := hid hc
  have hle := Nd.cnt_le s
  have hle2 : cf s (strB cn) ≤ 32 := by rw [← cfT_all]; exact cfT_le _ _ _
  by_cases h1 : 0 < Nd.cnt s
  · have d1 : (0 : Int) < (Nd.cnt s : Int) := by omega
    by_cases h2 : cf s (strB cn) = 0
    · have hf := hid (show setB cn s = true by unfold setB; rw [decide_eq_true h1, decide_eq_true h2]; rfl)
      have d2 : ((cf s (strB cn) : Nat) : Int) = 0 := by omega
      clear h2
      generalize ((cf s (strB cn) : Nat) : Int) = C at *
      generalize Nd.cnt s = K at *
      subst d2
      go_enter Tryz.func84, Tryz.ntmps84
      go_wp2_with fail
      refine k1.mono ?_
      rintro e w1 ⟨rfl, hb1⟩
      go_wp2_with fail
      refine (k2 _).mono ?_
      rintro e w2 ⟨rfl, hb2⟩
      go_wp2
      go_ret
      exact ⟨ret_bool hf.out.symm, bnext (bnext bl hb1) hb2⟩
    · have hf := hid (show setB cn s = false by unfold setB; rw [decide_eq_false h2, Bool.and_false])
      have d2 : ¬ ((cf s (strB cn) : Nat) : Int) = 0 := by omega
      clear h2
      generalize ((cf s (strB cn) : Nat) : Int) = C at *
      generalize Nd.cnt s = K at *
      go_enter Tryz.func84, Tryz.ntmps84
      go_wp2_with fail
      refine k1.mono ?_
      rintro e w1 ⟨rfl, hb1⟩
      go_wp2_with fail
      refine (k2 _).mono ?_
      rintro e w2 ⟨rfl, hb2⟩
      go_wp2
      go_ret
      exact ⟨ret_bool (by rw [hf.out]; exact beq_eq_false_iff_ne.2 d2), bnext (bnext bl hb1) hb2⟩
  · have hf := hid (show setB cn s = false by unfold setB; rw [decide_eq_false h1]; rfl)
    have d1 : ¬ (0 : Int) < (Nd.cnt s : Int) := by omega
    generalize ((cf s (strB cn) : Nat) : Int) = C at *
    generalize Nd.cnt s = K at *
    go_enter Tryz.func84, Tryz.ntmps84
    go_wp2_with fail
    refine k1.mono ?_
    rintro e w1 ⟨rfl, hb1⟩
    go_wp2_with fail
    refine (k2 _).mono ?_
    rintro e w2 ⟨rfl, hb2⟩
    go_wp2
    go_ret
    exact ⟨ret_bool hf.out.symm, bnext (bnext bl hb1) hb2⟩

def greB (Z : List Int) (c : Int) (i : Nat) : Bool := decide (c ≤ itAt Z i)

/-- Enough nodes of the set have the cores. -/
def fitB (Z : List Int) (s : Nat) (nn c : Int) : Bool := decide (nn ≤ ((cf s (greB Z c) : Nat) : Int))

end Go.Proofs.YtflapjehkgefdaaGreat
