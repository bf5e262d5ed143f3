/- strings.Cut and strings.Split at one byte. -/
import Derived.Test.YtomdghodbkhkaaaGreatDoorShelf
import Derived.Test.YtomdghodbkhkaaaGreatDoorNum
import Derived.Lib.SplitLaws
namespace Go.Proofs.YtomdghodbkhkaaaGreatDoor
open Go.RowKit
set_option linter.unusedVariables false
set_option linter.unusedSimpArgs false

theorem index_cut (c : UInt8) (l : List UInt8) : ((cutB c l).2.2 = true ∧ ∃ i : Nat, Lib.indexByte l c = (i : Int) ∧ i < l.length ∧ (cutB c l).1 = l.take i ∧ (cutB c l).2.1 = l.drop (i + 1)) ∨ ((cutB c l).2.2 = false ∧ Lib.indexByte l c = -1 ∧ (cutB c l).1 = l ∧ (cutB c l).2.1 = []) := by
  induction l with
  | nil => right; exact ⟨rfl, rfl, rfl, rfl⟩
  | cons b t ih =>
    by_cases h : b = c
    · left
      subst h
      exact ⟨by simp [cutB], 0, by simp [Lib.indexByte], by simp, by simp [cutB], by simp [cutB]⟩
    · have hb : (b == c) = false := by simpa using h
      rcases ih with ⟨h1, i, h2, h3, h4, h5⟩ | ⟨h1, h2, h3, h4⟩
      · left
        refine ⟨by simp [cutB, h, h1], i + 1, ?_, by simp; omega, by simp [cutB, h, h4], by simp [cutB, h, h5]⟩
        have hne : (((i : Int)) == -1) = false := by simp
        simp [Lib.indexByte, hb, h2, hne]
      · right
        exact ⟨by simp [cutB, h, h1], by simp [Lib.indexByte, hb, h2], by simp [cutB, h, h3], by simp [cutB, h, h4]⟩

set_option maxHeartbeats 800000 in
theorem cut0_any (c : UInt8) (l : List UInt8) (hl : l.length ≤ 9223372036854775807) (w : World) :
    Calls Tryz.prog 77 #[Str l, .string ⟨#[c]⟩] w fun e w' => e = .returned (.tuple #[Str (cutB c l).1, Str (cutB c l).2.1, .bool (cutB c l).2.2]) ∧ Below w.heap.size w w' := by
  obtain ⟨s, hs⟩ : ∃ s : ByteArray, s = ⟨l.toArray⟩ := ⟨_, rfl⟩
  have hsz : s.size = l.length := by rw [hs]; rfl
  have hS : Str l = .string s := by rw [hs]; rfl
  have hdl : s.data.toList = l := by rw [hs]
  have hi := fun w => index_lib s c w
  rw [hdl] at hi
  rw [hS]
  rcases index_cut c l with ⟨h1, i, h2, h3, h4, h5⟩ | ⟨h1, h2, h3, h4⟩
  · rw [h1, h4, h5]
    rw [h2] at hi
    replace hs := hid hs
    replace hS := hid hS
    go_enter Tryz.func77, Tryz.ntmps77
    go_wp2_with fail
    refine (hi _).mono ?_
    rintro e w1 ⟨rfl, rfl⟩
    have c1 : (0 : Int) ≤ ↑i := by omega
    have c2 : (↑i : Int) ≤ ↑s.size := by omega
    have c3 : (↑i : Int) + 1 ≤ ↑s.size := by omega
    go_wp2_with fail
    go_quiet (fail)
    go_wp2
    go_ret3
    refine ⟨?_, ⟨rfl, rfl, rfl, Nat.le_refl _, fun _ _ => rfl⟩⟩
    show Ending.returned (.tuple #[.string (s.extract 0 i), .string (s.extract (i + 1) l.length), .bool true]) = _
    rw [hs.out, str_cut, str_cut, List.drop_zero, List.take_length]
    rfl
  · rw [h1, h3, h4]
    rw [h2] at hi
    rw [hS]
    replace hs := hid hs
    replace hS := hid hS
    go_enter Tryz.func77, Tryz.ntmps77
    go_wp2_with fail
    refine (hi _).mono ?_
    rintro e w1 ⟨rfl, rfl⟩
    go_wp2
    go_ret3
    exact ⟨rfl, Below.refl _ _⟩

theorem cut_any (c : UInt8) (l : List UInt8) (hl : l.length ≤ 9223372036854775807) (w : World) :
    Calls Tryz.prog 54 #[Str l, .string ⟨#[c]⟩] w fun e w' => e = .returned (.tuple #[Str (cutB c l).1, Str (cutB c l).2.1, .bool (cutB c l).2.2]) ∧ Below w.heap.size w w' := by
  have h := fun w => cut0_any c l hl w
  go_enter Tryz.func54, Tryz.ntmps54
  go_wp2_with fail
  refine (h _).mono ?_
  rintro e w1 ⟨rfl, hb⟩
  go_wp2
  go_ret3
  exact ⟨rfl, hb⟩

theorem cut_none (c : UInt8) (l : List UInt8) (h : (cutB c l).2.2 = false) : c ∉ l := by
  induction l with
  | nil => simp
  | cons b t ih =>
    by_cases hb : b = c
    · subst hb; simp [cutB] at h
    · simp only [cutB, if_neg hb] at h
      have := ih h
      simp [this]
      exact fun e => hb e.symm

theorem split_pcs (c : UInt8) : ∀ (k : Nat) (l : List UInt8), l.count c = k → Lib.splitK [c] 0 k l = pcs c l
  | 0, l, h => by
    have hn : c ∉ l := List.count_eq_zero.1 h
    rw [pcs_plain c l hn]; rfl
  | k + 1, l, h => by
    rw [pcs_cut]
    rcases index_cut c l with ⟨h1, i, h2, h3, h4, h5⟩ | ⟨h1, h2, h3, h4⟩
    · have hne : (((i : Int)) == -1) = false := by simp
      unfold Lib.splitK
      rw [Lib.index_one, h2, hne, if_neg (by simp), h1, if_pos rfl, h4, h5]
      obtain ⟨s1, s2⟩ := Lib.indexByte_some h2
      have hli : l[i] = c := by rw [List.getElem?_eq_getElem h3] at s1; simpa using s1
      have hsp : l = l.take i ++ c :: l.drop (i + 1) := by rw [← hli, ← List.drop_eq_getElem_cons h3, List.take_append_drop]
      have h0 : (l.take i).count c = 0 := by
        rw [List.count_eq_zero]
        intro hm
        obtain ⟨j, hj, e⟩ := List.mem_iff_getElem.1 hm
        have hj2 : j < i := by rw [List.length_take] at hj; omega
        refine s2 j hj2 ?_
        rw [List.getElem?_eq_getElem (by omega)]
        rw [List.getElem_take] at e
        rw [e]
      have hct : (l.drop (i + 1)).count c = k := by
        have h6 := h
        rw [hsp, List.count_append, List.count_cons_self, h0] at h6
        omega
      rw [← split_pcs c k _ hct]
      rfl
    · exact absurd h (by rw [List.count_eq_zero.2 (cut_none c l h1)]; omega)

theorem splitB_pcs (c : UInt8) (l : List UInt8) : Lib.splitB ⟨#[c]⟩ 0 (l.count c) ⟨l.toArray⟩ = (pcs c l).map fun p => ⟨p.toArray⟩ := by
  have h := Lib.splitB_data ⟨#[c]⟩ 0 (l.count c) ⟨l.toArray⟩
  have h2 : Lib.splitK [c] 0 (l.count c) l = pcs c l := split_pcs c _ l rfl
  have h3 : (Lib.splitB ⟨#[c]⟩ 0 (l.count c) ⟨l.toArray⟩).map (·.data.toList) = pcs c l := by rw [h]; exact h2
  rw [← h3, List.map_map]
  refine (List.map_id _).symm.trans (List.map_congr_left fun x _ => ?_)
  apply ByteArray.ext
  simp

theorem gensplit_any (c : UInt8) (l : List UInt8) (hl : l.length ≤ 1000) (w : World) :
    Calls Tryz.prog 51 #[Str l, .string ⟨#[c]⟩, .int .i64 0, .int .i64 (-1)] w fun e w' =>
      e = .returned (.slice (some ⟨w.heap.size, 0, none⟩) (pcs c l).length (pcs c l).length) ∧ w' = w.alloc (.cells ((pcs c l).map Str).toArray 9) := by
  have hcB : Lib.countB ⟨l.toArray⟩ ⟨#[c]⟩ = l.count c := by
    show Lib.count l [c] = _
    exact Lib.count_one c l
  have hcl : l.count c ≤ l.length := List.count_le_length
  have k := Any.strings_genSplit_core lays221 (by kernel_rfl) ⟨l.toArray⟩ ⟨#[c]⟩ 0 (-1) (l.count c + 1) w (by show l.length < _; omega) (Nat.le_refl 1) (Nat.zero_le _)
    (fun x cc hx => by
      have h := index2_lib x c (w.alloc (.cells cc 9))
      rw [show Lib.indexByte x.data.toList c = Lib.indexB x ⟨#[c]⟩ from (Lib.index_one _ _).symm] at h
      exact h)
    (by
      have h := count_lib ⟨l.toArray⟩ c w
      rw [show Lib.countByte (⟨l.toArray⟩ : ByteArray).data.toList c = Lib.countB ⟨l.toArray⟩ ⟨#[c]⟩ from hcB.symm] at h
      exact h)
    (by decide) (by decide) (by rw [hcB, if_pos (by decide)]; show _ = min _ ((l.length : Int) + 1); omega)
  rw [Nat.add_sub_cancel, splitB_pcs] at k
  have hlen : (pcs c l).length = l.count c + 1 := by
    have h := Lib.splitB_all ⟨#[c]⟩ (Nat.le_refl 1) 0 (l.count c) ⟨l.toArray⟩ hcB
    rw [splitB_pcs, List.length_map] at h
    exact h
  rw [← hlen] at k
  have e2 : Lib.cellsOf ((pcs c l).map fun p => (⟨p.toArray⟩ : ByteArray)) (pcs c l).length = ((pcs c l).map Str).toArray := by
    rw [show (pcs c l).length = ((pcs c l).map fun p => (⟨p.toArray⟩ : ByteArray)).length from (List.length_map _).symm, Lib.cellsOf_full, List.map_map]
    rfl
  rw [e2, List.length_map] at k
  exact k

theorem split_any (c : UInt8) (l : List UInt8) (hl : l.length ≤ 1000) (w : World) :
    Calls Tryz.prog 36 #[Str l, .string ⟨#[c]⟩] w fun e w' =>
      e = .returned (.slice (some ⟨w.heap.size, 0, none⟩) (pcs c l).length (pcs c l).length) ∧ w' = w.alloc (.cells ((pcs c l).map Str).toArray 9) := by
  have h := gensplit_any c l hl w
  generalize pcs c l = P at *
  go_enter Tryz.func36, Tryz.ntmps36
  go_wp2_with fail
  refine h.mono ?_
  rintro e w1 ⟨rfl, rfl⟩
  go_wp2
  go_ret
  exact ⟨rfl, rfl⟩
end Go.Proofs.YtomdghodbkhkaaaGreatDoor
