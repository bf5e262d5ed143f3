/- What holdsItsKind and holdsLittle answer. -/
import Derived.Test.YtkkdiciadkcmmaaMem
namespace Go.Proofs.Ytkkdiciadkcmmaa
open Go.RowKit

theorem text_nil (t : ByteArray) : t.toList = [] ↔ t = ByteArray.empty := by
  rw [ByteArray.toList_eq]
  constructor
  · intro h; exact WideShapes.bytes_inj (by rw [h]; rfl)
  · rintro rfl; rfl

def kindR (k : UInt8) (n : Int) (text : ByteArray) (nl tl : Nat) : Bool :=
  if k = 1 then decide (n ≠ 0 ∧ text.toList = [] ∧ nl = 0 ∧ tl = 0)
  else if k = 2 then decide (n = 0 ∧ text.toList ≠ [] ∧ nl = 0 ∧ tl = 0)
  else if k = 3 then decide (n = 0 ∧ text.toList = [] ∧ nl ≠ 0 ∧ tl = 0)
  else if k = 4 then decide (n = 0 ∧ text.toList = [] ∧ nl = 0 ∧ tl ≠ 0)
  else false

theorem kind_ne (k : UInt8) (j : UInt8) (h : k ≠ j) : ((k.toNat : Int) == (j.toNat : Int)) = false := by
  rw [beq_eq_false_iff_ne]
  intro e
  exact h (UInt8.toNat_inj.1 (by omega))

set_option maxRecDepth 100000 in
set_option maxHeartbeats 4000000 in
theorem kind_raw (tg : Int) (k : UInt8) (n : Int) (text : ByteArray) (na ta : Option Addr) (nl tl nc tc : Nat) (w : World) :
    Calls Try.prog 29 #[.agg #[.int .u8 tg, .int .u8 (k.toNat : Int), .int .i64 n, .string text, .slice na nl nc, .slice ta tl tc]] w fun e w' => e = .returned (.bool (kindR k n text nl tl)) ∧ Below w.heap.size w w' := by
  by_cases h1 : k = 1
  · subst h1
    have e : ∀ a b c d, kindR 1 a b c d = decide (a ≠ 0 ∧ b.toList = [] ∧ c = 0 ∧ d = 0) := fun _ _ _ _ => rfl
    rw [e]
    clear e
    go_enter Try.func29, Try.ntmps29
    go_wp2_with fail
    go_quiet (fail)
    go_wp2
    all_goals
      go_ret
      exact ⟨ret_bool (by rw [Bool.eq_iff_iff]; simp [*] <;> omega), below_drewN (below_lit w _) _⟩
  · by_cases h2 : k = 2
    · subst h2
      have e : ∀ a b c d, kindR 2 a b c d = decide (a = 0 ∧ b.toList ≠ [] ∧ c = 0 ∧ d = 0) := fun _ _ _ _ => rfl
      rw [e]
      clear e h1
      go_enter Try.func29, Try.ntmps29
      go_wp2_with fail
      go_quiet (fail)
      go_wp2
      all_goals
        go_ret
        exact ⟨ret_bool (by rw [Bool.eq_iff_iff]; simp [*] <;> omega), below_drewN (below_lit w _) _⟩
    · by_cases h3 : k = 3
      · subst h3
        have e : ∀ a b c d, kindR 3 a b c d = decide (a = 0 ∧ b.toList = [] ∧ c ≠ 0 ∧ d = 0) := fun _ _ _ _ => rfl
        rw [e]
        clear e h1 h2
        go_enter Try.func29, Try.ntmps29
        go_wp2_with fail
        go_quiet (fail)
        go_wp2
        all_goals
          go_ret
          exact ⟨ret_bool (by rw [Bool.eq_iff_iff]; simp [*] <;> omega), below_drewN (below_lit w _) _⟩
      · by_cases h4 : k = 4
        · subst h4
          have e : ∀ a b c d, kindR 4 a b c d = decide (a = 0 ∧ b.toList = [] ∧ c = 0 ∧ d ≠ 0) := fun _ _ _ _ => rfl
          rw [e]
          clear e h1 h2 h3
          go_enter Try.func29, Try.ntmps29
          go_wp2_with fail
          go_quiet (fail)
          go_wp2
          all_goals
            go_ret
            exact ⟨ret_bool (by rw [Bool.eq_iff_iff]; simp [*] <;> omega), below_drewN (below_lit w _) _⟩
        · have e : kindR k n text nl tl = false := by unfold kindR; rw [if_neg h1, if_neg h2, if_neg h3, if_neg h4]
          rw [e]
          have e1 : ((k.toNat : Int) == 1) = false := kind_ne k 1 h1
          have e2 : ((k.toNat : Int) == 2) = false := kind_ne k 2 h2
          have e3 : ((k.toNat : Int) == 3) = false := kind_ne k 3 h3
          have e4 : ((k.toNat : Int) == 4) = false := kind_ne k 4 h4
          clear e h1 h2 h3 h4
          generalize (k.toNat : Int) = K at *
          go_enter Try.func29, Try.ntmps29
          go_wp2_with fail
          go_quiet (fail)
          go_wp2
          go_ret
          exact ⟨rfl, below_drewN (below_lit w _) _⟩

/-- All that a field holds is within the limits. -/
def Little (size nl : Nat) (ts : List ByteArray) : Prop := size ≤ 65535 ∧ nl ≤ 256 ∧ ts.length ≤ 256 ∧ ∀ s ∈ ts, s.size ≤ 65535

set_option maxRecDepth 100000 in
set_option maxHeartbeats 4000000 in
theorem little_yes (tg k : Int) (n : Int) (text : ByteArray) (na ta : Option Addr) (nl tl nc tc : Nat) (ts : List ByteArray) (w : World) (htl : ts.length = tl) (hat : TAt w ta ts) (h : Little text.size nl ts) :
    Calls Try.prog 30 #[.agg #[.int .u8 tg, .int .u8 k, .int .i64 n, .string text, .slice na nl nc, .slice ta tl tc]] w fun e w' => e = .returned (.bool true) ∧ Below w.heap.size w w' := by
  obtain ⟨h1, h2, h3, h4⟩ := h
  rw [htl] at h3
  go_enter Try.func30, Try.ntmps30
  go_wp2
  go_loopw [24] (fun i wr => ∃ j : Nat, j ≤ tl ∧ i = .int .i64 j ∧ Below w.heap.size w wr) (fun i _ => tl - (intOf i).toNat)
  case atStart => exact ⟨0, Nat.zero_le _, rfl, below_lit w _⟩
  case round =>
    obtain ⟨j, hj, rfl, hb⟩ := hrel
    by_cases hlt : j < tl
    · obtain ⟨b, o, rfl, hc⟩ := TAt.form (CAt.below hat hb) (by intro e; subst e; simp at htl; omega)
      have hcj := hc j (by omega)
      have hs := h4 (ts[j]'(by omega)) (List.getElem_mem _)
      clear hc
      replace htl := hid htl
      generalize ts[j]'(by have := htl.out; omega) = s at *
      go_wp2
      go_roundw
      case rel => exact ⟨j + 1, by omega, by go_num, hb⟩
      case measure => simp [intOf]; omega
    · have hjn : j = tl := by omega
      subst hjn
      go_wp2
      go_ret
      exact ⟨rfl, hb⟩
end Go.Proofs.Ytkkdiciadkcmmaa
