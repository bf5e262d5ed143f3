/- nodeOf: the node that digits tell; whatever the bytes. -/
import Derived.Test.YtebdlcgegdobkaaDoorPrint2
import Derived.Laws.RangeAny
namespace Go.Proofs.YtebdlcgegdobkaaDoor
open Go.RowKit

/-- What nodeOf answers. -/
def nodeV (l : List UInt8) : Nat × Bool := match nodeAcc l 0 with | none => (0, false) | some n => (n, !decide (l = []))

theorem acc_drop {l : List UInt8} {j n : Nat} (hj : j < l.length) : nodeAcc (l.drop j) n = if 48 ≤ l[j].toNat ∧ l[j].toNat ≤ 57 then (if n * 10 + (l[j].toNat - 48) < 32 then nodeAcc (l.drop (j + 1)) (n * 10 + (l[j].toNat - 48)) else none) else none := by
  rw [List.drop_eq_getElem_cons hj]; rfl

theorem iter_below (w : World) (s : ByteArray) (p : Nat) : Below w.heap.size w (w.iter s p) := below_lit w _

set_option maxHeartbeats 800000 in
theorem node_any (l : List UInt8) (hl : l.length ≤ 9223372036854775807) (w : World) :
    Calls Tryd.prog 36 #[Str l] w fun e w' => e = .returned (.tuple #[.int .i64 ((nodeV l).1 : Int), .bool (nodeV l).2]) ∧ Below w.heap.size w w' := by
  obtain ⟨s, hs⟩ : ∃ s : ByteArray, s = ⟨l.toArray⟩ := ⟨_, rfl⟩
  have hsz : s.size = l.length := by rw [hs]; rfl
  have hget : ∀ j (h : j < s.size) (h2 : j < l.length), s[j]'h = l[j] := by subst hs; intro j h h2; rfl
  have hS : Str l = .string s := by rw [hs]; rfl
  rw [hS]
  replace hs := hid hs
  replace hS := hid hS
  go_enter Tryd.func36, Tryd.ntmps36
  go_wp2_with fail
  go_loopw [4] (fun v wr => ∃ j n : Nat, j ≤ l.length ∧ n < 32 ∧ v = .int .i64 (n : Int) ∧ Hid (nodeAcc l 0 = nodeAcc (l.drop j) n) ∧ wr = w.iter s j) (fun _ wr => l.length - wr.iterPos w.heap.size)
  case atStart => exact ⟨0, 0, Nat.zero_le _, by omega, rfl, hid (by simp), rfl⟩
  case round =>
    obtain ⟨j, n, hj, hn, rfl, hacc, rfl⟩ := hrel
    by_cases hlt : j < l.length
    · have hj2 : j < s.size := by rw [hsz]; exact hlt
      have hg := hget j hj2 hlt
      have hd := acc_drop (n := n) hlt
      generalize hb : l[j] = b at hd hg
      by_cases hdig : 48 ≤ b.toNat ∧ b.toNat ≤ 57
      · have hnx := fun ty => run_next_ascii (P := Tryd.prog) w s j ty hj2 (by rw [hg]; omega)
        rw [hg] at hnx
        obtain ⟨d, hd1⟩ : ∃ d : Nat, b.toNat = 48 + d := ⟨b.toNat - 48, by omega⟩
        rw [hd1] at hnx hd
        rw [if_pos (by omega)] at hd
        have hd10 : d < 10 := by omega
        rw [show 48 + d - 48 = d by omega] at hd
        by_cases h32 : n * 10 + d < 32
        · rw [if_pos h32] at hd
          have hacc2 := hid (hacc.out.trans hd)
          replace hd := hid hd
          replace hb := hid hb
          replace hg := hid hg
          clear hdig hd1
          go_wp2_with fail
          refine ⟨⟨j + 1, n * 10 + d, by omega, h32, ?_, hacc2, rfl⟩, ?_⟩
          · congr 1; omega
          · simp; omega
        · rw [if_neg h32] at hd
          have hfin := hid (show nodeV l = (0, false) by unfold nodeV; rw [hacc.out, hd])
          replace hd := hid hd
          replace hb := hid hb
          replace hg := hid hg
          clear hdig hd1
          go_wp2
          go_ret2
          rw [hfin.out]
          exact ⟨rfl, iter_below _ _ _⟩
      · rw [if_neg hdig] at hd
        have hfin := hid (show nodeV l = (0, false) by unfold nodeV; rw [hacc.out, hd])
        obtain ⟨r, p, hr, hnx⟩ : ∃ r p : Nat, (r < 48 ∨ 57 < r ∧ r ≤ 2147483647) ∧ ∀ ty, (Instr.next (.pointer (some ⟨w.heap.size, 0, none⟩)) true ty).run Tryd.prog (w.iter s j) = .ok (.tuple #[.bool true, .int .i64 j, .int .i32 (r : Int)]) (w.iter s p) := by
          refine ⟨(Utf8.decode s j).1, j + (Utf8.decode s j).2, ?_, fun ty => run_next_any (P := Tryd.prog) w s j ty hj2⟩
          by_cases h128 : b.toNat < 128
          · rw [decode_ascii s j hj2 (by rw [hg]; exact h128), hg]
            simp only
            omega
          · have h1 := (decode_high s j hj2 (by rw [hg]; omega)).1
            have h2 := decode_le s j
            omega
        replace hd := hid hd
        replace hb := hid hb
        replace hg := hid hg
        clear hdig
        rcases hr with hr | ⟨hr, hr2⟩
        · go_wp2
          go_ret2
          rw [hfin.out]
          exact ⟨rfl, iter_below _ _ _⟩
        · go_wp2
          go_ret2
          rw [hfin.out]
          exact ⟨rfl, iter_below _ _ _⟩
    · have hje : j = l.length := by omega
      have hnx := fun ty => run_next_end (P := Tryd.prog) w s j ty (by omega)
      have hfin := hid (show nodeV l = (n, !decide (l = [])) by unfold nodeV; rw [hacc.out, List.drop_eq_nil_of_le (by omega)]; rfl)
      subst hje
      go_wp2
      go_ret2
      rw [hfin.out]
      refine ⟨?_, iter_below _ _ _⟩
      have e : s.toList = l := by rw [Lib.toList_data, hs.out]
      show Ending.returned (.tuple #[.int .i64 (n : Int), .bool (!s.toList.isEmpty)]) = _
      rw [e]
      cases l <;> rfl

theorem str_cut (l : List UInt8) (a b : Nat) : (⟨l.toArray⟩ : ByteArray).extract a b = ⟨((l.take b).drop a).toArray⟩ := by
  apply ByteArray.ext
  rw [ByteArray.data_extract]
  simp [List.extract_eq_take_drop, List.drop_take]

theorem index_cut (c : UInt8) (l : List UInt8) : ((cutB c l).2.2 = true ∧ ∃ i : Nat, Lib.indexByte l c = (i : Int) ∧ i < l.length ∧ (cutB c l).1 = l.take i ∧ (cutB c l).2.1 = l.drop (i + 1)) ∨ ((cutB c l).2.2 = false ∧ Lib.indexByte l c = -1 ∧ (cutB c l).1 = l ∧ (cutB c l).2.1 = []) := by
  induction l with
  | nil => right; exact ⟨rfl, rfl, rfl, rfl⟩
  | cons b t ih =>
    by_cases h : b = c
    · left
      subst h
      exact ⟨by simp [cutB], 0, by simp [Lib.indexByte], by simp, by simp [cutB], by simp [cutB]⟩
    · have hb : (b == c) = false := by simpa using h
      rcases ih with ⟨h1, i, h2, h3, h4, h5⟩ | ⟨h1, h2, h3, h4⟩
      · left
        refine ⟨by simp [cutB, h, h1], i + 1, ?_, by simp; omega, by simp [cutB, h, h4], by simp [cutB, h, h5]⟩
        have hne : (((i : Int)) == -1) = false := by simp
        simp [Lib.indexByte, hb, h2, hne]
      · right
        exact ⟨by simp [cutB, h, h1], by simp [Lib.indexByte, hb, h2], by simp [cutB, h, h3], by simp [cutB, h, h4]⟩

set_option maxHeartbeats 800000 in
theorem cut_any (c : UInt8) (l : List UInt8) (hl : l.length ≤ 9223372036854775807) (w : World) :
    Calls Tryd.prog 35 #[Str l, .string ⟨#[c]⟩] w fun e w' => e = .returned (.tuple #[Str (cutB c l).1, Str (cutB c l).2.1, .bool (cutB c l).2.2]) ∧ Below w.heap.size w w' := by
  obtain ⟨s, hs⟩ : ∃ s : ByteArray, s = ⟨l.toArray⟩ := ⟨_, rfl⟩
  have hsz : s.size = l.length := by rw [hs]; rfl
  have hS : Str l = .string s := by rw [hs]; rfl
  have hdl : s.data.toList = l := by rw [hs]
  have hi := fun w => index_lib s c w
  rw [hdl] at hi
  rw [hS]
  rcases index_cut c l with ⟨h1, i, h2, h3, h4, h5⟩ | ⟨h1, h2, h3, h4⟩
  · rw [h1, h4, h5]
    rw [h2] at hi
    replace hs := hid hs
    replace hS := hid hS
    go_enter Tryd.func35, Tryd.ntmps35
    go_wp2_with fail
    refine (hi _).mono ?_
    rintro e w1 ⟨rfl, rfl⟩
    have c1 : (0 : Int) ≤ ↑i := by omega
    have c2 : (↑i : Int) ≤ ↑s.size := by omega
    have c3 : (↑i : Int) + 1 ≤ ↑s.size := by omega
    go_wp2_with fail
    go_quiet (fail)
    go_wp2
    go_ret3
    refine ⟨?_, ⟨rfl, rfl, rfl, Nat.le_refl _, fun _ _ => rfl⟩⟩
    show Ending.returned (.tuple #[.string (s.extract 0 i), .string (s.extract (i + 1) l.length), .bool true]) = _
    rw [hs.out, str_cut, str_cut, List.drop_zero, List.take_length]
    rfl
  · rw [h1, h3, h4]
    rw [h2] at hi
    rw [hS]
    replace hs := hid hs
    replace hS := hid hS
    go_enter Tryd.func35, Tryd.ntmps35
    go_wp2_with fail
    refine (hi _).mono ?_
    rintro e w1 ⟨rfl, rfl⟩
    go_wp2
    go_ret3
    exact ⟨rfl, Below.refl _ _⟩

end Go.Proofs.YtebdlcgegdobkaaDoor
