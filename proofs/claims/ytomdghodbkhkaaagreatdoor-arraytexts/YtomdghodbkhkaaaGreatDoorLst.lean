/- isList, isEven; even beginnings of a list. -/
import Derived.Test.YtomdghodbkhkaaaGreatDoorTx
namespace Go.Proofs.YtomdghodbkhkaaaGreatDoor
open Go.RowKit
set_option linter.unusedVariables false
set_option linter.unusedSimpArgs false

/-- Is it an index list? -/
def okAt (L : List Int) (i : Nat) : Prop := 0 ≤ itAt L i ∧ itAt L i ≤ 9999 ∧ (0 < i → itAt L (i - 1) < itAt L i)
def ListP (L : List Int) : Prop := 1 ≤ L.length ∧ L.length ≤ 32 ∧ ∀ i, i < L.length → okAt L i
def listB (L : List Int) : Bool := decide (1 ≤ L.length) && decide (L.length ≤ 32) && (List.range L.length).all fun i => decide (0 ≤ itAt L i) && decide (itAt L i ≤ 9999) && (decide (i = 0) || decide (itAt L (i - 1) < itAt L i))
theorem listB_iff (L : List Int) : listB L = true ↔ ListP L := by
  unfold listB ListP okAt
  simp only [Bool.and_eq_true, decide_eq_true_eq, List.all_eq_true, List.mem_range, Bool.or_eq_true]
  constructor
  · rintro ⟨⟨h1, h2⟩, h3⟩
    exact ⟨h1, h2, fun i hi => ⟨(h3 i hi).1.1, (h3 i hi).1.2, fun h0 => (h3 i hi).2.resolve_left (by omega)⟩⟩
  · rintro ⟨h1, h2, h3⟩
    refine ⟨⟨h1, h2⟩, fun i hi => ⟨⟨(h3 i hi).1, (h3 i hi).2.1⟩, ?_⟩⟩
    rcases Nat.eq_zero_or_pos i with h | h
    · exact .inl h
    · exact .inr ((h3 i hi).2.2 h)
theorem listB_yes {L : List Int} (h : ListP L) : listB L = true := (listB_iff L).2 h
theorem listB_no {L : List Int} (h : ¬ ListP L) : listB L = false := by
  cases e : listB L
  · rfl
  · exact absurd ((listB_iff L).1 e) h

set_option maxRecDepth 100000 in
set_option maxHeartbeats 1600000 in
theorem list_any (a : Option Addr) (k c : Nat) (L : List Int) (w : World) (hn : L.length = k) (hl : k ≤ 4611686018427387904) (hat : IAt w a L) :
    Calls Tryz.prog 22 #[.slice a k c] w fun e w' => e = .returned (.bool (listB L)) ∧ Below w.heap.size w w' := by
  by_cases hk : 1 ≤ k ∧ k ≤ 32
  · obtain ⟨h1, h32⟩ := hk
    have d1 : decide ((k : Int) < 1) = false := decide_eq_false (by omega)
    have d2 : decide ((32 : Int) < (k : Int)) = false := decide_eq_false (by omega)
    obtain ⟨b, o, rfl⟩ := hat.place (by omega)
    have hyes := fun h => hid (listB_yes (L := L) ⟨by omega, by omega, h⟩)
    have hno := fun i (hi : i < k) (h : ¬ okAt L i) => hid (listB_no (L := L) (fun h2 => h (h2.2.2 i (by omega))))
    replace hn := hid hn
    replace hat := hid hat
    replace hyes := hid hyes
    replace hno := hid hno
    go_enter Tryz.func22, Tryz.ntmps22
    go_wp2_with fail
    go_loopw [15] (fun i wr => ∃ j : Nat, j ≤ k ∧ i = .int .i64 (j : Int) ∧ Hid (∀ i, i < j → okAt L i) ∧ Below w.heap.size w wr) (fun i _ => k - (intOf i).toNat)
    case atStart => exact ⟨0, Nat.zero_le _, rfl, hid (fun i hi => by omega), Below.refl _ _⟩
    case round =>
      obtain ⟨j, hj, rfl, hok, hb⟩ := hrel
      by_cases hlt : j < k
      · have hjL : j < L.length := by rw [hn.out]; exact hlt
        have x0 := (hat.out.below hb).one hjL
        have hbad := fun h => (hno.out j hlt h).out
        have hstep : okAt L j → ∀ i, i < j + 1 → okAt L i := fun h i hi => by
          rcases Nat.lt_or_ge i j with h3 | h3
          · exact hok.out i h3
          · obtain rfl : i = j := by omega
            exact h
        obtain ⟨X, hX⟩ : ∃ X, X = itAt L j := ⟨_, rfl⟩
        by_cases c1 : X < 0
        · have e1 : decide (X < 0) = true := decide_eq_true c1
          have hf := hid (hbad fun h => by have := h.1; omega)
          rw [← hX] at x0
          clear hbad hstep
          replace hX := hid hX
          go_wp2
          go_ret
          exact ⟨ret_bool hf.out.symm, hb⟩
        · by_cases c2 : 9999 < X
          · have e1 : decide (X < 0) = false := decide_eq_false c1
            have e2 : decide (9999 < X) = true := decide_eq_true c2
            have hf := hid (hbad fun h => by have := h.2.1; omega)
            rw [← hX] at x0
            clear hbad hstep
            replace hX := hid hX
            go_wp2
            go_ret
            exact ⟨ret_bool hf.out.symm, hb⟩
          · have e1 : decide (X < 0) = false := decide_eq_false c1
            have e2 : decide (9999 < X) = false := decide_eq_false c2
            rcases j with _ | m
            · have hok1 := hid (hstep ⟨by omega, by omega, fun h => absurd h (by omega)⟩)
              rw [← hX, Nat.add_zero] at x0
              clear hbad hstep
              replace hX := hid hX
              go_wp2_with fail
              go_roundw
              case rel => exact ⟨1, by omega, by go_num, hok1, hb⟩
              case measure => simp [intOf]; omega
            · have x1 := (hat.out.below hb).one (i := m) (by omega)
              have e3 : decide ((0 : Int) < ((m + 1 : Nat) : Int)) = true := decide_eq_true (by omega)
              have hs2 : itAt L m < itAt L (m + 1) → okAt L (m + 1) := fun h => ⟨by omega, by omega, fun _ => h⟩
              have hb2 : ¬ itAt L m < itAt L (m + 1) → ¬ okAt L (m + 1) := fun h h2 => h (h2.2.2 (by omega))
              rw [← hX] at x0 hs2 hb2
              generalize itAt L m = Y at *
              by_cases c4 : Y < X
              · have e4 : decide (X ≤ Y) = false := decide_eq_false (by omega)
                have hok1 := hid (hstep (hs2 c4))
                clear hbad hstep hs2 hb2
                replace hX := hid hX
                go_wp2_with fail
                go_roundw
                case rel => exact ⟨m + 2, by omega, by go_num, hok1, hb⟩
                case measure => simp [intOf]; omega
              · have e4 : decide (X ≤ Y) = true := decide_eq_true (by omega)
                have hf := hid (hbad (hb2 c4))
                clear hbad hstep hs2 hb2
                replace hX := hid hX
                go_wp2
                go_ret
                exact ⟨ret_bool hf.out.symm, hb⟩
      · have hje : j = k := by omega
        have hf := hid (hyes.out (fun i hi => hok.out i (by have := hn.out; omega))).out
        subst hje
        go_wp2
        go_ret
        exact ⟨ret_bool hf.out.symm, hb⟩
  · have hf := hid (listB_no (L := L) (fun h => hk (by have h1 := h.1; have h2 := h.2.1; omega)))
    by_cases h1 : k < 1
    · have d1 : decide ((k : Int) < 1) = true := decide_eq_true (by omega)
      replace hn := hid hn
      clear hk
      go_enter Tryz.func22, Tryz.ntmps22
      go_wp2
      go_ret
      exact ⟨ret_bool hf.out.symm, Below.refl _ _⟩
    · have d1 : decide ((k : Int) < 1) = false := decide_eq_false (by omega)
      have d2 : decide ((32 : Int) < (k : Int)) = true := decide_eq_true (by omega)
      replace hn := hid hn
      clear hk
      go_enter Tryz.func22, Tryz.ntmps22
      go_wp2
      go_ret
      exact ⟨ret_bool hf.out.symm, Below.refl _ _⟩

/-- A list of indexes is one of numbers. -/
theorem list_cs {L : List Int} (h : ListP L) : ∃ N, L = cs N ∧ listN N := by
  have e : L = cs (L.map Int.toNat) := by
    unfold cs
    rw [List.map_map]
    refine (List.map_id _).symm.trans (List.map_congr_left fun x hx => ?_)
    obtain ⟨i, hi, rfl⟩ := List.mem_iff_getElem.1 hx
    have := (h.2.2 i hi).1
    rw [← itAt_eq hi] at this
    show L[i] = Int.ofNat (L[i].toNat)
    exact (Int.toNat_of_nonneg this).symm
  have hv : ∀ i (hi : i < (L.map Int.toNat).length), (((L.map Int.toNat)[i] : Nat) : Int) = itAt L i := fun i hi => by
    rw [List.length_map] at hi
    have := (h.2.2 i hi).1
    rw [List.getElem_map, itAt_eq hi]
    exact Int.toNat_of_nonneg this
  refine ⟨L.map Int.toNat, e, by rw [List.length_map]; exact h.1, by rw [List.length_map]; exact h.2.1, ?_, ?_⟩
  · intro n hn
    obtain ⟨i, hi, rfl⟩ := List.mem_iff_getElem.1 hn
    have h1 := hv i hi
    rw [List.length_map] at hi
    have := (h.2.2 i hi).2.1
    omega
  · unfold Rise
    rw [List.pairwise_iff_getElem]
    intro i j hi hj hij
    have hmono : ∀ d, i + d < L.length → itAt L i ≤ itAt L (i + d) ∧ (0 < d → itAt L i < itAt L (i + d)) := by
      intro d
      induction d with
      | zero => intro _; exact ⟨Int.le_refl _, fun h => absurd h (by omega)⟩
      | succ d ih =>
        intro hd
        have h1 := ih (by omega)
        have h2 := (h.2.2 (i + (d + 1)) hd).2.2 (by omega)
        rw [show i + (d + 1) - 1 = i + d by omega] at h2
        exact ⟨by omega, fun _ => by omega⟩
    have h1 := hv i hi
    have h2 := hv j hj
    rw [List.length_map] at hj
    have h3 := (hmono (j - i) (by omega)).2 (by omega)
    rw [show i + (j - i) = j by omega] at h3
    omega
theorem cs_list {N : List Nat} (h : listN N) : ListP (cs N) := by
  obtain ⟨h1, h2, h3, h4⟩ := h
  refine ⟨by rw [cs_len]; exact h1, by rw [cs_len]; exact h2, fun i hi => ?_⟩
  rw [cs_len] at hi
  have hb := h3 N[i] (List.getElem_mem hi)
  have hg : N.getD i 0 = N[i] := by simp [hi]
  unfold okAt
  rw [cs_at hi, hg]
  refine ⟨by omega, by omega, fun h0 => ?_⟩
  have hi2 : i - 1 < N.length := by omega
  have hg2 : N.getD (i - 1) 0 = N[i - 1] := by simp [hi2]
  rw [cs_at hi2, hg2]
  unfold Rise at h4
  rw [List.pairwise_iff_getElem] at h4
  have := h4 (i - 1) i hi2 hi (by omega)
  omega
end Go.Proofs.YtomdghodbkhkaaaGreatDoor
