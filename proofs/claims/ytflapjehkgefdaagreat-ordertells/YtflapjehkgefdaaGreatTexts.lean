/- Texts in lists of texts: whether one stands there; whether two lists are the same. -/
import Derived.Test.YtflapjehkgefdaaGreatPath
namespace Go.Proofs.YtflapjehkgefdaaGreat
open Go.RowKit

def NotTo (T : List ByteArray) (n : ByteArray) (j : Nat) : Prop := ∀ i, i < j → txAt T i ≠ n

theorem NotTo.next {T : List ByteArray} {n : ByteArray} {j : Nat} (h : NotTo T n j) (hj : txAt T j ≠ n) : NotTo T n (j + 1) := fun i hi => by
  rcases Nat.lt_or_ge i j with h1 | h1
  · exact h i h1
  · obtain rfl : i = j := by omega
    exact hj
theorem NotTo.all {T : List ByteArray} {n : ByteArray} (h : NotTo T n T.length) : hasB T n = false := by
  rw [has_no]
  intro hm
  obtain ⟨i, hi, e⟩ := List.getElem_of_mem hm
  exact h i hi (by rw [← txAt_eq hi]; exact e)
theorem has_at {T : List ByteArray} {n : ByteArray} {j : Nat} (hj : j < T.length) (h : txAt T j = n) : hasB T n = true := by
  rw [has_is, ← h, ← txAt_eq hj]
  exact List.getElem_mem hj

set_option maxRecDepth 100000 in
theorem index_any (a : Option Addr) (k c : Nat) (T : List ByteArray) (n : ByteArray) (w : World) (hn : T.length = k) (hl : k ≤ 4611686018427387904) (hat : TAt w a T) :
    Calls Tryz.prog 99 #[.slice a k c, .string n] w fun e w' => ∃ r : Int, e = .returned (.int .i64 r) ∧ decide (0 ≤ r) = hasB T n ∧ w' = w := by
  replace hn := hid hn
  replace hat := hid hat
  go_enter Tryz.func99, Tryz.ntmps99
  go_wp2_with fail
  go_loopw [8] (fun i wr => ∃ j : Nat, j ≤ k ∧ i = .int .i64 (j : Int) ∧ Hid (NotTo T n j) ∧ wr = w) (fun i _ => k - (intOf i).toNat)
  case atStart => exact ⟨0, Nat.zero_le _, rfl, hid (fun i hi => by omega), rfl⟩
  case round =>
    obtain ⟨j, hj, rfl, hok, rfl⟩ := hrel
    by_cases hlt : j < k
    · have hjT : j < T.length := by rw [hn.out]; exact hlt
      obtain ⟨b, o, e⟩ := hat.out.place (by omega)
      subst e
      have x0 := hat.out.one hjT
      by_cases hB : txAt T j = n
      · have hf := hid (has_at hjT hB)
        have he := text_eq hB.symm
        replace hB := hid hB
        generalize txAt T j = X at *
        go_wp2
        go_ret
        exact ⟨_, rfl, by rw [hf.out]; simp, rfl⟩
      · have he := text_ne (fun h => hB h.symm)
        have hok2 := hid (hok.out.next hB)
        replace hB := hid hB
        replace hok := hid hok
        generalize txAt T j = X at *
        go_wp2_with fail
        go_roundw
        case rel => exact ⟨j + 1, by omega, by go_num, hok2, trivial⟩
        case measure => simp [intOf]; omega
    · have hje : j = k := by omega
      subst hje
      have hf := hid (NotTo.all (T := T) (n := n) (by rw [hn.out]; exact hok.out))
      go_wp2
      go_ret
      exact ⟨_, rfl, by rw [hf.out]; rfl, rfl⟩

set_option maxRecDepth 100000 in
theorem in26 (a : Option Addr) (k c : Nat) (T : List ByteArray) (n : ByteArray) (w : World) (hn : T.length = k) (hl : k ≤ 4611686018427387904) (hat : TAt w a T) :
    Calls Tryz.prog 67 #[.slice a k c, .string n] w fun e w' => e = .returned (.bool (hasB T n)) ∧ w' = w := by
  replace hn := hid hn
  replace hat := hid hat
  go_enter Tryz.func67, Tryz.ntmps67
  go_wp2_with fail
  go_loopw [5] (fun i wr => ∃ j : Nat, j ≤ k ∧ i = .int .i64 (j : Int) ∧ Hid (NotTo T n j) ∧ wr = w) (fun i _ => k - (intOf i).toNat)
  case atStart => exact ⟨0, Nat.zero_le _, rfl, hid (fun i hi => by omega), rfl⟩
  case round =>
    obtain ⟨j, hj, rfl, hok, rfl⟩ := hrel
    by_cases hlt : j < k
    · have hjT : j < T.length := by rw [hn.out]; exact hlt
      obtain ⟨b, o, e⟩ := hat.out.place (by omega)
      subst e
      have x0 := hat.out.one hjT
      by_cases hB : txAt T j = n
      · have hf := hid (has_at hjT hB)
        have he := text_eq hB
        replace hB := hid hB
        generalize txAt T j = X at *
        go_wp2
        go_ret
        exact ⟨by rw [hf.out]; rfl, rfl⟩
      · have he := text_ne hB
        have hok2 := hid (hok.out.next hB)
        replace hB := hid hB
        replace hok := hid hok
        generalize txAt T j = X at *
        go_wp2_with fail
        go_roundw
        case rel => exact ⟨j + 1, by omega, by go_num, hok2, trivial⟩
        case measure => simp [intOf]; omega
    · have hje : j = k := by omega
      subst hje
      have hf := hid (NotTo.all (T := T) (n := n) (by rw [hn.out]; exact hok.out))
      go_wp2
      go_ret
      exact ⟨by rw [hf.out]; rfl, rfl⟩

set_option maxRecDepth 100000 in
/-- SameTexts of equal lists. -/
theorem samet_any (a a' : Option Addr) (k c c' : Nat) (T : List ByteArray) (w : World) (hn : T.length = k) (hl : k ≤ 4611686018427387904) (hat : TAt w a T) (hat' : TAt w a' T) :
    Calls Tryz.prog 70 #[.slice a k c, .slice a' k c'] w fun e w' => e = .returned (.bool true) ∧ Below w.heap.size w w' := by
  replace hn := hid hn
  replace hat := hid hat
  replace hat' := hid hat'
  go_enter Tryz.func70, Tryz.ntmps70
  go_wp2_with fail
  go_loopw [5] (fun i wr => ∃ j : Nat, j ≤ k ∧ i = .int .i64 (j : Int) ∧ Below w.heap.size w wr) (fun i _ => k - (intOf i).toNat)
  case atStart => exact ⟨0, Nat.zero_le _, rfl, Below.refl _ _⟩
  case round =>
    obtain ⟨j, hj, rfl, hb⟩ := hrel
    by_cases hlt : j < k
    · have hjT : j < T.length := by rw [hn.out]; exact hlt
      obtain ⟨b, o, e⟩ := hat.out.place (by omega)
      subst e
      obtain ⟨b', o', e⟩ := hat'.out.place (by omega)
      subst e
      have x0 := (hat.out.below hb).one hjT
      have x1 := (hat'.out.below hb).one hjT
      generalize txAt T j = X at *
      go_wp2_with fail
      go_quiet (fail)
      have B1 := below_drewN hb nq
      go_wp2_with fail
      go_roundw
      case rel => exact ⟨j + 1, by omega, by go_num, B1⟩
      case measure => simp [intOf]; omega
    · have hje : j = k := by omega
      subst hje
      go_wp2
      go_ret
      exact ⟨rfl, hb⟩

end Go.Proofs.YtflapjehkgefdaaGreat
