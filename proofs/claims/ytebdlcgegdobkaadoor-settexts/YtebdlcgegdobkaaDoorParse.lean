/- runOf and Parse, whatever the text. -/
import Derived.Test.YtebdlcgegdobkaaDoorNode
namespace Go.Proofs.YtebdlcgegdobkaaDoor
open Go.RowKit

theorem cut1_any (c : UInt8) (l : List UInt8) (hl : l.length ≤ 9223372036854775807) (w : World) :
    Calls Tryd.prog 28 #[Str l, .string ⟨#[c]⟩] w fun e w' => e = .returned (.tuple #[Str (cutB c l).1, Str (cutB c l).2.1, .bool (cutB c l).2.2]) ∧ Below w.heap.size w w' := by
  have hc := cut_any c l hl w
  generalize Str (cutB c l).1 = x at *
  generalize Str (cutB c l).2.1 = y at *
  generalize (cutB c l).2.2 = z at *
  generalize Str l = v at *
  go_enter Tryd.func28, Tryd.ntmps28
  go_wp2_with fail
  refine hc.mono ?_
  rintro e w1 ⟨rfl, hb1⟩
  go_wp2
  go_ret3
  exact ⟨rfl, hb1⟩

theorem cut_len (c : UInt8) (l : List UInt8) : (cutB c l).1.length ≤ l.length ∧ (cutB c l).2.1.length ≤ l.length ∧ ((cutB c l).2.2 = true → (cutB c l).2.1.length < l.length) := by
  rcases index_cut c l with ⟨h1, i, h2, h3, h4, h5⟩ | ⟨h1, h2, h3, h4⟩
  · rw [h4, h5]; simp; omega
  · rw [h3, h4, h1]; simp

/-- What runOf answers. -/
def runV (l : List UInt8) : Nat × Bool := match runOfP l with | none => (0, false) | some s => (s, true)

theorem node_ok (l : List UInt8) : nodeP l = if (nodeV l).2 then some (nodeV l).1 else none := by
  unfold nodeP nodeV
  cases l with
  | nil => rfl
  | cons b t =>
    rw [if_neg (by simp)]
    cases nodeAcc (b :: t) 0 with
    | none => rfl
    | some n => simp

/-- The nodes from a to b below k. -/
def maskTo (a b k : Nat) : Nat := ofN ((List.range k).filter fun n => decide (a ≤ n) && decide (n ≤ b))

theorem maskTo_succ (a b k : Nat) : maskTo a b (k + 1) = if a ≤ k ∧ k ≤ b then maskTo a b k ||| 2 ^ k else maskTo a b k := by
  unfold maskTo
  rw [List.range_succ, List.filter_append]
  by_cases h : a ≤ k ∧ k ≤ b
  · rw [if_pos h, ← ofN_append]; simp [h.1, h.2]
  · rw [if_neg h]
    have : (decide (a ≤ k) && decide (k ≤ b)) = false := by simp; omega
    simp [this]

theorem maskTo_lt (a b : Nat) {k : Nat} (hk : k ≤ 32) : maskTo a b k < 4294967296 := ofN_lt fun n hn => by simp at hn; omega

/-- The second number's text. -/
def toOf (l : List UInt8) : List UInt8 := if (cutB 45 l).2.2 then (cutB 45 l).2.1 else (cutB 45 l).1

theorem runV_eq (l : List UInt8) : runV l = if (nodeV (cutB 45 l).1).2 && (nodeV (toOf l)).2 then (maskN (nodeV (cutB 45 l).1).1 (nodeV (toOf l)).1, true) else (0, false) := by
  unfold runV runOfP
  rw [node_ok, show (if (cutB 45 l).2.2 then (cutB 45 l).2.1 else (cutB 45 l).1) = toOf l from rfl, node_ok (toOf l)]
  cases (nodeV (cutB 45 l).1).2 <;> cases (nodeV (toOf l)).2 <;> rfl

set_option maxHeartbeats 1600000 in
theorem run_any (l : List UInt8) (hl : l.length ≤ 9223372036854775807) (w : World) :
    Calls Tryd.prog 29 #[Str l] w fun e w' => e = .returned (.tuple #[.int .u32 ((runV l).1 : Int), .bool (runV l).2]) ∧ Below w.heap.size w w' := by
  have hc := cut1_any 45 l hl w
  have hlen := cut_len 45 l
  have hv := hid (runV_eq l)
  have hn1 := fun w => node_any (cutB 45 l).1 (by omega) w
  have hn2 := fun w => node_any (toOf l) (by unfold toOf; split <;> omega) w
  have hto : toOf l = if (cutB 45 l).2.2 then (cutB 45 l).2.1 else (cutB 45 l).1 := rfl
  generalize toOf l = T at *
  generalize (cutB 45 l).1 = x at *
  generalize (cutB 45 l).2.1 = y at *
  generalize (cutB 45 l).2.2 = z at *
  generalize hA : (nodeV x).1 = A at *
  generalize hB : (nodeV T).1 = B at *
  generalize hp : (nodeV x).2 = p at *
  generalize hq : (nodeV T).2 = q at *
  replace hA := hid hA; replace hB := hid hB; replace hp := hid hp; replace hq := hid hq
  have hfst : ∃ X Y TT : Value, X = Str x ∧ Y = Str y ∧ TT = Str T ∧ Str l = Str l := ⟨_, _, _, rfl, rfl, rfl, rfl⟩
  obtain ⟨X, Y, TT, eX, eY, eT, _⟩ := hfst
  rw [← eX, ← eY] at hc
  rw [← eX] at hn1
  rw [← eT] at hn2
  have hTT : TT = if z then Y else X := by rw [eT, hto, eX, eY]; cases z <;> rfl
  clear hto hlen
  replace eX := hid eX; replace eY := hid eY; replace eT := hid eT
  generalize Str l = V at *
  generalize runV l = R at *
  go_enter Tryd.func29, Tryd.ntmps29
  go_wp2_with fail
  refine hc.mono ?_
  rintro e w1 ⟨rfl, hb1⟩
  cases z
  · simp only [Bool.false_eq_true, if_false] at hTT
    subst hTT
    go_wp2_with fail
    refine (hn1 _).mono ?_
    rintro e w2 ⟨rfl, hb2⟩
    go_wp2_with fail
    refine (hn2 _).mono ?_
    rintro e w3 ⟨rfl, hb3⟩
    have B3 := bnext (bnext hb1 hb2) hb3
    cases p
    · go_wp2
      go_ret2
      rw [hv.out]
      exact ⟨rfl, B3⟩
    · cases q
      · go_wp2
        go_ret2
        rw [hv.out]
        exact ⟨rfl, B3⟩
      · go_wp2_with fail
        go_loopw [11, 38] (fun v i wr => ∃ j : Nat, j ≤ 32 ∧ v = .int .u32 (maskTo A B j : Int) ∧ i = .int .i64 (j : Int) ∧ wr = w3) (fun _ i _ => 32 - (intOf i).toNat)
        case atStart => exact ⟨0, Nat.zero_le _, rfl, rfl, rfl⟩
        case round =>
          obtain ⟨j, hj, rfl, rfl, rfl⟩ := hrel
          by_cases hlt : j < 32
          · have hse := hid (maskTo_succ A B j)
            have hml := maskTo_lt A B hj
            have ho := or_pow (maskTo A B j) j hml hlt
            by_cases h1 : A ≤ j
            · have d1 : decide (A ≤ j) = true := by simpa using h1
              by_cases h2 : j ≤ B
              · have d2 : decide (j ≤ B) = true := by simpa using h2
                have hse2 := hid (show maskTo A B (j + 1) = maskTo A B j ||| 2 ^ j by rw [hse.out, if_pos ⟨h1, h2⟩])
                generalize maskTo A B j = S at *
                go_wp2_with (go_at_call 23; refine (only_any j hlt _).mono ?_; rintro e w4 ⟨rfl, rfl⟩)
                go_roundw
                case rel => exact ⟨j + 1, by omega, by rw [hse2.out], by go_num, trivial⟩
                case measure => simp [intOf]; omega
              · have d2 : decide (j ≤ B) = false := by simpa using h2
                have hse2 := hid (show maskTo A B (j + 1) = maskTo A B j by rw [hse.out, if_neg (fun h => h2 h.2)])
                generalize maskTo A B j = S at *
                go_wp2_with (go_at_call 23; refine (only_any j hlt _).mono ?_; rintro e w4 ⟨rfl, rfl⟩)
                go_roundw
                case rel => exact ⟨j + 1, by omega, by rw [hse2.out], by go_num, trivial⟩
                case measure => simp [intOf]; omega
            · have d1 : decide (A ≤ j) = false := by simpa using h1
              have hse2 := hid (show maskTo A B (j + 1) = maskTo A B j by rw [hse.out, if_neg (fun h => h1 h.1)])
              generalize maskTo A B j = S at *
              go_wp2_with (go_at_call 23; refine (only_any j hlt _).mono ?_; rintro e w4 ⟨rfl, rfl⟩)
              go_roundw
              case rel => exact ⟨j + 1, by omega, by rw [hse2.out], by go_num, trivial⟩
              case measure => simp [intOf]; omega
          · have hje : j = 32 := by omega
            subst hje
            go_wp2
            go_ret2
            rw [hv.out]
            exact ⟨rfl, B3⟩
  · simp only [if_true] at hTT
    subst hTT
    go_wp2_with fail
    refine (hn1 _).mono ?_
    rintro e w2 ⟨rfl, hb2⟩
    go_wp2_with fail
    refine (hn2 _).mono ?_
    rintro e w3 ⟨rfl, hb3⟩
    have B3 := bnext (bnext hb1 hb2) hb3
    cases p
    · go_wp2
      go_ret2
      rw [hv.out]
      exact ⟨rfl, B3⟩
    · cases q
      · go_wp2
        go_ret2
        rw [hv.out]
        exact ⟨rfl, B3⟩
      · go_wp2_with fail
        go_loopw [11, 38] (fun v i wr => ∃ j : Nat, j ≤ 32 ∧ v = .int .u32 (maskTo A B j : Int) ∧ i = .int .i64 (j : Int) ∧ wr = w3) (fun _ i _ => 32 - (intOf i).toNat)
        case atStart => exact ⟨0, Nat.zero_le _, rfl, rfl, rfl⟩
        case round =>
          obtain ⟨j, hj, rfl, rfl, rfl⟩ := hrel
          by_cases hlt : j < 32
          · have hse := hid (maskTo_succ A B j)
            have hml := maskTo_lt A B hj
            have ho := or_pow (maskTo A B j) j hml hlt
            by_cases h1 : A ≤ j
            · have d1 : decide (A ≤ j) = true := by simpa using h1
              by_cases h2 : j ≤ B
              · have d2 : decide (j ≤ B) = true := by simpa using h2
                have hse2 := hid (show maskTo A B (j + 1) = maskTo A B j ||| 2 ^ j by rw [hse.out, if_pos ⟨h1, h2⟩])
                generalize maskTo A B j = S at *
                go_wp2_with (go_at_call 23; refine (only_any j hlt _).mono ?_; rintro e w4 ⟨rfl, rfl⟩)
                go_roundw
                case rel => exact ⟨j + 1, by omega, by rw [hse2.out], by go_num, trivial⟩
                case measure => simp [intOf]; omega
              · have d2 : decide (j ≤ B) = false := by simpa using h2
                have hse2 := hid (show maskTo A B (j + 1) = maskTo A B j by rw [hse.out, if_neg (fun h => h2 h.2)])
                generalize maskTo A B j = S at *
                go_wp2_with (go_at_call 23; refine (only_any j hlt _).mono ?_; rintro e w4 ⟨rfl, rfl⟩)
                go_roundw
                case rel => exact ⟨j + 1, by omega, by rw [hse2.out], by go_num, trivial⟩
                case measure => simp [intOf]; omega
            · have d1 : decide (A ≤ j) = false := by simpa using h1
              have hse2 := hid (show maskTo A B (j + 1) = maskTo A B j by rw [hse.out, if_neg (fun h => h1 h.1)])
              generalize maskTo A B j = S at *
              go_wp2_with (go_at_call 23; refine (only_any j hlt _).mono ?_; rintro e w4 ⟨rfl, rfl⟩)
              go_roundw
              case rel => exact ⟨j + 1, by omega, by rw [hse2.out], by go_num, trivial⟩
              case measure => simp [intOf]; omega
          · have hje : j = 32 := by omega
            subst hje
            go_wp2
            go_ret2
            rw [hv.out]
            exact ⟨rfl, B3⟩

end Go.Proofs.YtebdlcgegdobkaaDoor
