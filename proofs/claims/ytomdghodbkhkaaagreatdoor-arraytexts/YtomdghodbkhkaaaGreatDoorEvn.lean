/- Even beginnings; isEven; the runs of a list, told to the closure. -/
import Derived.Test.YtomdghodbkhkaaaGreatDoorTel
import Derived.Test.YtomdghodbkhkaaaGreatDoorDrawAlv
import Derived.Test.YtomdghodbkhkaaaGreatDoorVals
import Derived.Deep.CutBlock
import Derived.Deep.Cut
namespace Go.Proofs.YtomdghodbkhkaaaGreatDoor
open Go.RowKit
set_option linter.unusedVariables false
set_option linter.unusedSimpArgs false

theorem evK_iff (s : Nat) : ∀ (p : Nat) (l : List Nat) (m : Nat), m ≤ evK s p l ↔ m ≤ l.length ∧ ∀ i, i < m → (p :: l).getD (i + 1) 0 = (p :: l).getD i 0 + s
  | p, [], m => by
    simp only [evK, List.length_nil]
    constructor
    · intro h; exact ⟨h, fun i hi => by omega⟩
    · exact fun h => h.1
  | p, x :: t, m => by
    rcases m with _ | m
    · exact ⟨fun _ => ⟨Nat.zero_le _, fun i hi => by omega⟩, fun _ => Nat.zero_le _⟩
    · unfold evK
      have ih := evK_iff s x t m
      split
      · rename_i h
        rw [Nat.add_le_add_iff_right, ih, List.length_cons, Nat.add_le_add_iff_right]
        constructor
        · rintro ⟨h1, h2⟩
          refine ⟨h1, fun i hi => ?_⟩
          rcases i with _ | i
          · simpa using h
          · have := h2 i (by omega)
            simpa using this
        · rintro ⟨h1, h2⟩
          refine ⟨h1, fun i hi => ?_⟩
          have := h2 (i + 1) (by omega)
          simpa using this
      · rename_i h
        constructor
        · intro h1; omega
        · rintro ⟨h1, h2⟩
          have := h2 0 (by omega)
          simp at this
          exact absurd this h

/-- Each is a step behind the one ahead. -/
def EvP (L : List Int) (s : Int) : Prop := ∀ i, 1 ≤ i → i < L.length → itAt L i - itAt L (i - 1) = s
def evB (L : List Int) (s : Int) : Bool := (List.range L.length).all fun i => decide (i = 0) || decide (itAt L i - itAt L (i - 1) = s)
theorem evB_iff (L : List Int) (s : Int) : evB L s = true ↔ EvP L s := by
  unfold evB EvP
  simp only [List.all_eq_true, List.mem_range, Bool.or_eq_true, decide_eq_true_eq]
  constructor
  · intro h i h1 h2
    exact (h i h2).resolve_left (by omega)
  · intro h i hi
    rcases Nat.eq_zero_or_pos i with h0 | h0
    · exact .inl h0
    · exact .inr (h i h0 hi)
theorem evB_no {L : List Int} {s : Int} (h : ¬ EvP L s) : evB L s = false := by
  cases e : evB L s
  · rfl
  · exact absurd ((evB_iff L s).1 e) h

theorem even_iff {a b : Nat} {t : List Nat} (hab : a < b) {m : Nat} (h2 : 2 ≤ m) (hm : m ≤ (a :: b :: t).length) : EvP ((cs (a :: b :: t)).take m) ((b : Int) - (a : Int)) ↔ m ≤ evn (a :: b :: t) := by
  have he : ∀ i, i < m → itAt ((cs (a :: b :: t)).take m) i = (((a :: b :: t).getD i 0 : Nat) : Int) := fun i hi => by
    have h1 : i < (a :: b :: t).length := by omega
    rw [← cs_at h1]
    unfold itAt
    rw [List.getD_eq_getElem?_getD, List.getD_eq_getElem?_getD, List.getElem?_take, if_pos hi]
  have hlen : ((cs (a :: b :: t)).take m).length = m := by rw [List.length_take, cs_len]; omega
  show _ ↔ m ≤ evK (b - a) b t + 2
  have hk := evK_iff (b - a) b t (m - 2)
  rw [show (m ≤ evK (b - a) b t + 2) ↔ (m - 2 ≤ evK (b - a) b t) by omega, hk]
  unfold EvP
  rw [hlen]
  constructor
  · intro h
    refine ⟨by simp only [List.length_cons] at hm; omega, fun i hi => ?_⟩
    have h3 := h (i + 2) (by omega) (by omega)
    rw [show i + 2 - 1 = i + 1 by omega, he (i + 2) (by omega), he (i + 1) (by omega)] at h3
    have e1 : (a :: b :: t).getD (i + 2) 0 = (b :: t).getD (i + 1) 0 := by simp
    have e2 : (a :: b :: t).getD (i + 1) 0 = (b :: t).getD i 0 := by simp
    rw [e1, e2] at h3
    omega
  · rintro ⟨_, h⟩ i h1 hi
    rw [he i hi, he (i - 1) (by omega)]
    rcases i with _ | i
    · omega
    · rcases i with _ | i
      · simp
      · have h3 := h i (by omega)
        have e1 : (a :: b :: t).getD (i + 2) 0 = (b :: t).getD (i + 1) 0 := by simp
        have e2 : (a :: b :: t).getD (i + 1) 0 = (b :: t).getD i 0 := by simp
        rw [show i + 1 + 1 - 1 = i + 1 by omega, e1, e2]
        omega

set_option maxRecDepth 100000 in
set_option maxHeartbeats 1600000 in
theorem even_any (b o k c : Nat) (L : List Int) (s : Int) (w : World) (hn : L.length = k) (hl : k ≤ 1000) (hat : IAt w (some ⟨b, o, none⟩) L) (hv : ∀ i, i < k → 0 ≤ itAt L i ∧ itAt L i ≤ 9999) :
    Calls Tryz.prog 42 #[.slice (some ⟨b, o, none⟩) k c, .int .i64 s] w fun e w' => e = .returned (.bool (evB L s)) ∧ Below w.heap.size w w' := by
  replace hn := hid hn
  replace hat := hid hat
  have hno := hid (fun i (h1 : 1 ≤ i) (h2 : i < k) (h : ¬ itAt L i - itAt L (i - 1) = s) => evB_no (L := L) (s := s) (fun h3 => h (h3 i h1 (by rw [hn.out]; exact h2))))
  have hyes := hid (fun h : EvP L s => (evB_iff L s).2 h)
  replace hv := hid hv
  go_enter Tryz.func42, Tryz.ntmps42
  go_wp2_with fail
  go_loopw [5] (fun i wr => ∃ j : Nat, 1 ≤ j ∧ j ≤ k + 1 ∧ i = .int .i64 (j : Int) ∧ Hid (∀ i, 1 ≤ i → i < j → i < k → itAt L i - itAt L (i - 1) = s) ∧ Below w.heap.size w wr) (fun i _ => k + 1 - (intOf i).toNat)
  case atStart => exact ⟨1, by omega, by omega, rfl, hid (fun i h1 h2 => by omega), Below.refl _ _⟩
  case round =>
    obtain ⟨j, h1, hj, rfl, hok, hb⟩ := hrel
    by_cases hlt : j < k
    · obtain ⟨m, rfl⟩ : ∃ m, j = m + 1 := ⟨j - 1, by omega⟩
      have x1 := (hat.out.below hb).one (i := m + 1) (by rw [hn.out]; exact hlt)
      have x0 := (hat.out.below hb).one (i := m) (by rw [hn.out]; omega)
      have b1 := hv.out (m + 1) hlt
      have b0 := hv.out m (by omega)
      have hbad := hno.out (m + 1) (by omega) hlt
      have hnx : itAt L (m + 1) - itAt L m = s → ∀ i, 1 ≤ i → i < m + 2 → i < k → itAt L i - itAt L (i - 1) = s := fun h i h1 h2 h3 => by
        rcases Nat.lt_or_ge i (m + 1) with h4 | h4
        · exact hok.out i h1 h4 h3
        · obtain rfl : i = m + 1 := by omega
          exact h
      rw [show m + 1 - 1 = m by omega] at hbad
      generalize itAt L (m + 1) = X at *
      generalize itAt L m = Y at *
      have hwr : IntKind.i64.wrap (X - Y) = X - Y := by rw [IntKind.wrap_i64]; omega
      by_cases he : X - Y = s
      · have hok2 := hid (hnx he)
        have d : (X - Y != s) = false := by simpa using he
        have d2 : (s != s) = false := by simp
        clear hbad hnx
        replace he := hid he
        go_wp2_with fail
        go_quiet (fail)
        have B1 := below_drewN hb nq
        generalize wr.drewN nq = W1 at *
        go_wp2_with fail
        go_roundw
        case rel => exact ⟨m + 2, by omega, by omega, by go_num, hok2, B1⟩
        case measure => simp [intOf]; omega
      · have d : (X - Y != s) = true := by simpa using he
        have hf := hid (hbad he)
        clear hbad hnx
        replace he := hid he
        go_wp2_with fail
        go_quiet (fail)
        have B1 := below_drewN hb nq
        generalize wr.drewN nq = W1 at *
        go_wp2
        go_ret
        exact ⟨ret_bool hf.out.symm, B1⟩
    · have hf := hid (hyes.out (fun i h1 h2 => hok.out i h1 (by have := hn.out; omega) (by have := hn.out; omega)))
      have d : decide (((j : Nat) : Int) < (k : Int)) = false := decide_eq_false (by omega)
      go_wp2
      go_ret
      exact ⟨ret_bool hf.out.symm, hb⟩
end Go.Proofs.YtomdghodbkhkaaaGreatDoor
