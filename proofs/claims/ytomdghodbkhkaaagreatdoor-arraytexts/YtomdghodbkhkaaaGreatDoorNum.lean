/- numberOf: the number that digits tell; whatever the bytes. -/
import Derived.Test.YtomdghodbkhkaaaGreatDoorTx
namespace Go.Proofs.YtomdghodbkhkaaaGreatDoor
open Go.RowKit
set_option linter.unusedVariables false
set_option linter.unusedSimpArgs false

/-- What numberOf answers. -/
def numV (l : List UInt8) : Nat × Bool := match numP l with | none => (0, false) | some n => (n, true)
theorem acc_drop {l : List UInt8} {j n : Nat} (hj : j < l.length) : numAcc (l.drop j) n = if 48 ≤ l[j].toNat ∧ l[j].toNat ≤ 57 then numAcc (l.drop (j + 1)) (n * 10 + (l[j].toNat - 48)) else none := by
  rw [List.drop_eq_getElem_cons hj]; rfl
theorem pow_le4 {n j : Nat} (h : n < 10 ^ j) (hj : j ≤ 4) : n < 10000 := Nat.lt_of_lt_of_le h (by have := Nat.pow_le_pow_right (n := 10) (by omega) hj; omega)

theorem str_facts (l : List UInt8) : ∃ s : ByteArray, s = ⟨l.toArray⟩ ∧ s.size = l.length ∧ (∀ j (h : j < s.size) (h2 : j < l.length), s[j]'h = l[j]) ∧ Str l = .string s ∧ s.toList = l :=
  ⟨⟨l.toArray⟩, rfl, rfl, fun j h h2 => rfl, rfl, by rw [Lib.toList_data]⟩
theorem idx0 (l : List UInt8) (s : ByteArray) (hs : s = ⟨l.toArray⟩) (h : 0 < l.length) (ty : TypeId) (hty : Tryz.prog.underlying ty = some .string) (w : World) : (Instr.index ty (.string s) (.int .i64 0)).run Tryz.prog w = .ok (.int .u8 (l[0].toNat : Int)) w := by
  subst hs
  rw [run_index_string w ty _ .i64 0 hty, dif_pos ⟨by omega, by show (0 : Int) < ((l.length : Nat) : Int); omega⟩]
  rfl

set_option maxHeartbeats 1600000 in
theorem num_good (l : List UInt8) (hl : l.length ≤ 4) (h0 : l ≠ []) (hz : ¬ (l.head? = some 48 ∧ l ≠ [48])) (w : World) :
    Calls Tryz.prog 53 #[Str l] w fun e w' => e = .returned (.tuple #[.int .i64 ((numV l).1 : Int), .bool (numV l).2]) ∧ Below w.heap.size w w' := by
  have hP : numP l = numAcc l 0 := by
    unfold numP
    rw [if_neg]
    rintro (h | h | h)
    · exact h0 h
    · omega
    · exact hz h
  have hpos : 0 < l.length := List.length_pos_iff.2 h0
  obtain ⟨s, hs, hsz, hget, hS, hdl⟩ := str_facts l
  have e1 : s.toList.isEmpty = false := by rw [hdl]; cases l; exact absurd rfl h0; rfl
  have e1b : (s.toList == []) = false := by rw [hdl]; cases l; exact absurd rfl h0; rfl
  have e2 : decide ((4 : Int) < (s.size : Int)) = false := by rw [hsz]; simp; omega
  have hix := fun w => idx0 l s hs hpos 9 Tryz.underlying9 w
  have hX : ∃ X : Int, X = (l[0].toNat : Int) ∧ ((X == 48) = false ∨ ((X == 48) = true ∧ (s.toList != [48]) = false ∧ (s.toList == [48]) = true)) := by
    refine ⟨_, rfl, ?_⟩
    by_cases hd : l[0] = 48
    · right
      have hl48 : l = [48] := by
        by_cases h : l = [48]
        · exact h
        · exact absurd ⟨by rw [List.head?_eq_getElem?, List.getElem?_eq_getElem hpos, hd], h⟩ hz
      rw [hdl]
      subst hl48
      exact ⟨rfl, rfl, rfl⟩
    · left
      have : l[0].toNat ≠ 48 := fun e => hd (UInt8.toNat_inj.1 e)
      simp; omega
  obtain ⟨X, hXe, hX⟩ := hX
  rw [← hXe] at hix
  rw [hS]
  replace hs := hid hs
  replace hS := hid hS
  replace hdl := hid hdl
  replace hP := hid hP
  replace hXe := hid hXe
  replace hget := hid hget
  rcases hX with hX | ⟨hX, hX2, hX3⟩
  all_goals
    go_enter Tryz.func53, Tryz.ntmps53
    go_wp2_with fail
    go_loopw [4] (fun v wr => ∃ j n : Nat, j ≤ l.length ∧ n < 10 ^ j ∧ v = .int .i64 (n : Int) ∧ Hid (numAcc l 0 = numAcc (l.drop j) n) ∧ wr = w.iter s j) (fun _ wr => l.length - wr.iterPos w.heap.size)
    case atStart => exact ⟨0, 0, Nat.zero_le _, by omega, rfl, hid (by simp), rfl⟩
    case round =>
      obtain ⟨j, n, hj, hn, rfl, hacc, rfl⟩ := hrel
      by_cases hlt : j < l.length
      · have hj2 : j < s.size := by rw [hsz]; exact hlt
        have hg := hget.out j hj2 hlt
        have hd := acc_drop (n := n) hlt
        generalize hb : l[j] = b at hd hg
        by_cases hdig : 48 ≤ b.toNat ∧ b.toNat ≤ 57
        · have hnx := fun ty => run_next_ascii (P := Tryz.prog) w s j ty hj2 (by rw [hg]; omega)
          rw [hg] at hnx
          obtain ⟨d, hd1⟩ : ∃ d : Nat, b.toNat = 48 + d := ⟨b.toNat - 48, by omega⟩
          rw [hd1] at hnx hd
          rw [if_pos (by omega)] at hd
          have hd10 : d < 10 := by omega
          rw [show 48 + d - 48 = d by omega] at hd
          have hn2 : n * 10 + d < 10 ^ (j + 1) := by rw [Nat.pow_succ]; omega
          have hn3 := pow_le4 hn2 (by omega)
          have hacc2 := hid (hacc.out.trans hd)
          replace hd := hid hd
          replace hb := hid hb
          replace hg := hid hg
          replace hn2 := hid hn2
          clear hdig hd1 hn
          go_wp2_with fail
          refine ⟨⟨j + 1, n * 10 + d, by omega, hn2.out, ?_, hacc2, rfl⟩, ?_⟩
          · congr 1; omega
          · simp; omega
        · rw [if_neg hdig] at hd
          have hfin := hid (show numV l = (0, false) by unfold numV; rw [hP.out, hacc.out, hd])
          obtain ⟨r, p, hr, hnx⟩ : ∃ r p : Nat, (r < 48 ∨ 57 < r ∧ r ≤ 2147483647) ∧ ∀ ty, (Instr.next (.pointer (some ⟨w.heap.size, 0, none⟩)) true ty).run Tryz.prog (w.iter s j) = .ok (.tuple #[.bool true, .int .i64 j, .int .i32 (r : Int)]) (w.iter s p) := by
            refine ⟨(Utf8.decode s j).1, j + (Utf8.decode s j).2, ?_, fun ty => run_next_any (P := Tryz.prog) w s j ty hj2⟩
            by_cases h128 : b.toNat < 128
            · rw [decode_ascii s j hj2 (by rw [hg]; exact h128), hg]
              simp only
              omega
            · have h1 := (decode_high s j hj2 (by rw [hg]; omega)).1
              have h2 := decode_le s j
              omega
          replace hd := hid hd
          replace hb := hid hb
          replace hg := hid hg
          clear hdig hn
          rcases hr with hr | ⟨hr, hr2⟩
          · go_wp2
            go_ret2
            rw [hfin.out]
            exact ⟨rfl, iter_below _ _ _⟩
          · go_wp2
            go_ret2
            rw [hfin.out]
            exact ⟨rfl, iter_below _ _ _⟩
      · have hje : j = l.length := by omega
        have hnx := fun ty => run_next_end (P := Tryz.prog) w s j ty (by omega)
        have hfin := hid (show numV l = (n, true) by unfold numV; rw [hP.out, hacc.out, List.drop_eq_nil_of_le (by omega)]; rfl)
        subst hje
        clear hn
        go_wp2
        go_ret2
        rw [hfin.out]
        exact ⟨rfl, iter_below _ _ _⟩

set_option maxHeartbeats 1600000 in
theorem num_bad (l : List UInt8) (h : l = [] ∨ 4 < l.length ∨ (l.length ≤ 4 ∧ l.head? = some 48 ∧ l ≠ [48])) (hl : l.length ≤ 9223372036854775807) (w : World) :
    Calls Tryz.prog 53 #[Str l] w fun e w' => e = .returned (.tuple #[.int .i64 ((numV l).1 : Int), .bool (numV l).2]) ∧ Below w.heap.size w w' := by
  have hV : numV l = (0, false) := by
    unfold numV numP
    rw [if_pos]
    rcases h with h | h | h
    · exact .inl h
    · exact .inr (.inl h)
    · exact .inr (.inr h.2)
  obtain ⟨s, hs, hsz, hget, hS, hdl⟩ := str_facts l
  rw [hS, hV]
  replace hS := hid hS
  replace hV := hid hV
  rcases h with h | h | ⟨h, h1, h2⟩
  · have e1 : s.toList.isEmpty = true := by rw [hdl, h]; rfl
    have e1b : (s.toList == []) = true := by rw [hdl, h]; rfl
    clear hs hget hdl h
    go_enter Tryz.func53, Tryz.ntmps53
    go_wp2
    go_ret2
    exact ⟨rfl, Below.refl _ _⟩
  · have hne : l ≠ [] := by intro e; rw [e] at h; simp at h
    have e1 : s.toList.isEmpty = false := by rw [hdl]; cases l; exact absurd rfl hne; rfl
    have e1b : (s.toList == []) = false := by rw [hdl]; cases l; exact absurd rfl hne; rfl
    have e2 : decide ((4 : Int) < (s.size : Int)) = true := by rw [hsz]; simp; omega
    clear hs hget hdl hne
    go_enter Tryz.func53, Tryz.ntmps53
    go_wp2
    go_ret2
    exact ⟨rfl, Below.refl _ _⟩
  · have hne : l ≠ [] := by intro e; rw [e] at h1; simp at h1
    have hpos : 0 < l.length := List.length_pos_iff.2 hne
    have e1 : s.toList.isEmpty = false := by rw [hdl]; cases l; exact absurd rfl hne; rfl
    have e1b : (s.toList == []) = false := by rw [hdl]; cases l; exact absurd rfl hne; rfl
    have e2 : decide ((4 : Int) < (s.size : Int)) = false := by rw [hsz]; simp; omega
    have hix := fun w => idx0 l s hs hpos 9 Tryz.underlying9 w
    have h48 : l[0] = 48 := by rw [List.head?_eq_getElem?, List.getElem?_eq_getElem hpos] at h1; simpa using h1
    rw [h48] at hix
    replace hix : ∀ w, (Instr.index 9 (.string s) (.int .i64 0)).run Tryz.prog w = .ok (.int .u8 48) w := hix
    have e3 : (s.toList == [48]) = false := by rw [hdl]; simpa using h2
    have e4 : (s.toList != [48]) = true := by rw [hdl]; simpa using h2
    clear hs hget hdl hne h1 h2 h48
    go_enter Tryz.func53, Tryz.ntmps53
    go_wp2
    go_ret2
    exact ⟨rfl, Below.refl _ _⟩

theorem num_any (l : List UInt8) (hl : l.length ≤ 9223372036854775807) (w : World) :
    Calls Tryz.prog 53 #[Str l] w fun e w' => e = .returned (.tuple #[.int .i64 ((numV l).1 : Int), .bool (numV l).2]) ∧ Below w.heap.size w w' := by
  by_cases h : l = [] ∨ 4 < l.length ∨ (l.length ≤ 4 ∧ l.head? = some 48 ∧ l ≠ [48])
  · exact num_bad l h hl w
  · have h4 : l.length ≤ 4 := by
      rcases Nat.lt_or_ge 4 l.length with h5 | h5
      · exact absurd (.inr (.inl h5)) h
      · exact h5
    exact num_good l h4 (fun e => h (.inl e)) (fun e => h (.inr (.inr ⟨h4, e⟩))) w
end Go.Proofs.YtomdghodbkhkaaaGreatDoor
