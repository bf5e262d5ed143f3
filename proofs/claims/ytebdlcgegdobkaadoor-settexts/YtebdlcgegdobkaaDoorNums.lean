/- Lists of numbers in memory; the set of a list, the list of a set, the lowest nodes. -/
import Derived.Test.YtebdlcgegdobkaaDoorOps
namespace Go.Proofs.YtebdlcgegdobkaaDoor
open Go.RowKit

def I (x : Int) : Value := .int .i64 x

def NOwn (w : World) (base : Nat) (v : Value) (C : List Int) : Prop := w.ownsRow base 3 1 v C.length (C.map I)

theorem info3 : (Tryd.prog.info? 3).map (fun i => (i.zero, i.size, i.bytes)) = some (some (.int .i64 0), 1, 8) := by kernel_rfl

theorem info_parts {t : Nat} {z : Value} {s b : Nat} (h : (Tryd.prog.info? t).map (fun i => (i.zero, i.size, i.bytes)) = some (some z, s, b)) : ∃ i, Tryd.prog.info? t = some i ∧ i.zero = some z ∧ i.size = s ∧ i.bytes = b := by
  cases hi : Tryd.prog.info? t with
  | none => rw [hi] at h; cases h
  | some i =>
    rw [hi] at h
    simp only [Option.map_some, Option.some.injEq, Prod.mk.injEq] at h
    exact ⟨i, rfl, h.1, h.2.1, h.2.2⟩

theorem I_one (Z : List Int) : ∀ u ∈ Z.map I, u.oneCell' = true := by
  intro u hu; simp at hu; obtain ⟨x, _, rfl⟩ := hu; rfl

theorem int_one (x : Int) : ∀ u ∈ [Value.int .i64 x], u.oneCell' = true := by
  intro u hu; simp at hu; subst hu; rfl

/-- These numbers lie behind a. -/
theorem iat_cell {w : World} {b o : Nat} {Z : List Int} (h : CAt w (some ⟨b, o, none⟩) (Z.map I)) (i : Nat) (hi : i < Z.length) : w.cell? ⟨b, o + i, none⟩ = some (.int .i64 Z[i]) := by
  obtain ⟨b', o', e, hc⟩ := h (by intro e; simp at e; rw [e] at hi; simp at hi)
  cases e
  rw [hc i (by simpa using hi)]
  simp [I]

theorem iat_place {w : World} {a : Option Addr} {Z : List Int} (h : CAt w a (Z.map I)) (hz : Z ≠ []) : ∃ b o, a = some ⟨b, o, none⟩ := by
  obtain ⟨b, o, e, _⟩ := h (by simpa using hz)
  exact ⟨b, o, e⟩

/-- The set of the nodes in l, and 0; 0 and 2 if one of them is no node. -/
def ofP (l : List Int) : Nat × Int := if l.all (fun n => decide (0 ≤ n) && decide (n < 32)) then (ofN (l.map Int.toNat), 0) else (0, 2)

theorem ofP_bad {l : List Int} {j : Nat} (hj : j < l.length) (h : l[j] < 0 ∨ 32 ≤ l[j]) : ofP l = (0, 2) := by
  unfold ofP
  rw [if_neg]
  intro ha
  have := List.all_eq_true.1 ha l[j] (List.getElem_mem hj)
  simp at this
  omega

/-- All of the first j are nodes. -/
def OkTo (l : List Int) (j : Nat) : Prop := ∀ n ∈ l.take j, 0 ≤ n ∧ n < 32

theorem OkTo.next {l : List Int} {j : Nat} (h : OkTo l j) (hj : j < l.length) (h0 : 0 ≤ l[j]) (h1 : l[j] < 32) : OkTo l (j + 1) := by
  intro n hn
  rw [List.take_add_one, List.getElem?_eq_getElem hj] at hn
  rcases List.mem_append.1 hn with h2 | h2
  · exact h n h2
  · simp at h2; subst h2; exact ⟨h0, h1⟩

theorem ofP_ok {l : List Int} (h : OkTo l l.length) : ofP l = (ofN (l.map Int.toNat), 0) := by
  unfold ofP
  rw [if_pos]
  rw [List.all_eq_true]
  intro n hn
  have := h n (by rw [List.take_length]; exact hn)
  simp [this]

/-- The set of the first j. -/
def setTo (l : List Int) (j : Nat) : Nat := ofN ((l.take j).map Int.toNat)

theorem setTo_succ {l : List Int} {j : Nat} (hj : j < l.length) : setTo l (j + 1) = setTo l j ||| 2 ^ (l[j]).toNat := by
  unfold setTo
  rw [List.take_add_one, List.getElem?_eq_getElem hj, List.map_append]
  exact ofN_append _ _

theorem setTo_lt {l : List Int} {j : Nat} (h : OkTo l j) : setTo l j < 4294967296 := by
  refine ofN_lt fun n hn => ?_
  obtain ⟨x, hx, rfl⟩ := List.mem_map.1 hn
  have := h x hx
  omega

def intOf : Value → Int
  | .int _ x => x
  | _ => 0

theorem or_nat (s t : Nat) (hs : s < 4294967296) (ht : t < 4294967296) : bits .or .u32 (s : Int) (t : Int) = ((s ||| t : Nat) : Int) := u32_or_nat s t hs ht

theorem or_pow (s n : Nat) (hs : s < 4294967296) (hn : n < 32) : bits .or .u32 (s : Int) (2 ^ n) = ((s ||| 2 ^ n : Nat) : Int) := by
  have h2 : ((2 ^ n : Nat) : Int) = 2 ^ n := by push_cast; rfl
  rw [← h2]
  exact u32_or_nat s _ hs (pow_lt32 hn)

set_option maxHeartbeats 400000 in
theorem of_any (a : Option Addr) (n c : Nat) (Z : List Int) (w : World) (hn : Z.length = n) (hl : n ≤ 4611686018427387904) (hat : CAt w a (Z.map I)) :
    Calls Tryd.prog 8 #[.slice a n c] w fun e w' => e = .returned (.tuple #[.int .u32 ((ofP Z).1 : Int), .int .i64 (ofP Z).2]) ∧ w' = w := by
  replace hn := hid hn
  replace hat := hid hat
  go_enter Tryd.func8, Tryd.ntmps8
  go_wp2_with fail
  go_loopw [4, 9] (fun s i wr => ∃ j : Nat, j ≤ n ∧ s = .int .u32 (setTo Z j : Int) ∧ i = .int .i64 (j : Int) ∧ Hid (OkTo Z j) ∧ wr = w) (fun _ i _ => n - (intOf i).toNat)
  case atStart => exact ⟨0, Nat.zero_le _, rfl, rfl, hid (fun n hn => by simp at hn), rfl⟩
  case round =>
    obtain ⟨j, hj, rfl, rfl, hok, rfl⟩ := hrel
    by_cases hlt : j < n
    · have hjL : j < Z.length := by rw [hn.out]; exact hlt
      obtain ⟨b, o, e⟩ := iat_place hat.out (by intro e; rw [e] at hjL; simp at hjL)
      subst e
      have x0 := iat_cell hat.out j hjL
      by_cases h1 : Z[j] < 0
      · have hf := hid (ofP_bad hjL (.inl h1))
        have d1 : decide (Z[j] < 0) = true := by simpa using h1
        generalize Z[j] = X at *
        go_wp2
        go_ret2
        rw [hf.out]
        exact ⟨rfl, rfl⟩
      · have d1 : decide (Z[j] < 0) = false := by simpa using h1
        by_cases h2 : 32 ≤ Z[j]
        · have hf := hid (ofP_bad hjL (.inr h2))
          have d2 : decide (32 ≤ Z[j]) = true := by simpa using h2
          generalize Z[j] = X at *
          go_wp2
          go_ret2
          rw [hf.out]
          exact ⟨rfl, rfl⟩
        · have d2 : decide (32 ≤ Z[j]) = false := by simpa using h2
          have hok2 := hid (hok.out.next hjL (by omega) (by omega))
          have hst := hid (setTo_succ hjL)
          have hlt2 := setTo_lt hok.out
          obtain ⟨m, hm⟩ : ∃ m : Nat, Z[j] = (m : Int) := ⟨Z[j].toNat, by omega⟩
          rw [hm] at x0 d1 d2 hst h1 h2
          have hm32 : m < 32 := by omega
          have ho := or_pow (setTo Z j) m hlt2 hm32
          replace hm := hid hm
          generalize setTo Z j = S at *
          go_wp2_with (go_at_call 23; refine (only_any m hm32 _).mono ?_; rintro e w1 ⟨rfl, rfl⟩)
          go_roundw
          case rel =>
            refine ⟨j + 1, by omega, ?_, by go_num, hok2, trivial⟩
            rw [hst.out]
            simp
          case measure => simp [intOf]; omega
    · have hje : j = n := by omega
      subst hje
      have hfin := hid (ofP_ok (l := Z) (by rw [hn.out]; exact hok.out))
      go_wp2
      go_ret2
      refine ⟨?_, rfl⟩
      rw [hfin.out]
      unfold setTo
      rw [← hn.out, List.take_length]
      rfl

def L2 (l : List Nat) : List Int := l.map Int.ofNat

set_option maxHeartbeats 400000 in
theorem list_any (s : Nat) (hs : s < 4294967296) (w : World) :
    Calls Tryd.prog 11 #[.int .u32 (s : Int)] w fun e w' => ∃ v, e = .returned v ∧ NOwn w' w.heap.size v (L2 (lst s)) ∧ Below w.heap.size w w' := by
  obtain ⟨i0, hi0, hz0, hz1, hz2⟩ := info_parts info3
  go_enter Tryd.func11, Tryd.ntmps11
  go_wp2_with fail
  go_loopw [3, 5] (fun v i wr => ∃ j : Nat, j ≤ 32 ∧ i = .int .i64 (j : Int) ∧ NOwn wr w.heap.size v (L2 (lstk s j)) ∧ Below w.heap.size w wr) (fun _ i _ => 32 - (intOf i).toNat)
  case atStart => exact ⟨0, Nat.zero_le _, rfl, by unfold NOwn; exact World.ownsRow_nil _ _ _ _, Below.refl _ _⟩
  case round =>
    obtain ⟨j, hj, rfl, hv, hb⟩ := hrel
    by_cases hlt : j < 32
    · have hse := lstk_succ s j
      have hlen := lstk_len s j
      cases hbit : s.testBit j
      · rw [hbit] at hse
        replace hse := hid hse
        replace hv := hid hv
        go_wp2_with (go_at_call 26; refine (has_any s j hs hlt _).mono ?_; rintro e w1 ⟨rfl, rfl⟩; rw [hbit])
        go_roundw
        case rel => exact ⟨j + 1, by omega, by go_num, by rw [hse.out]; exact hv.out, hb⟩
        case measure => simp [intOf]; omega
      · rw [hbit] at hse
        replace hse := hid hse
        replace hv := hid hv
        have hl2 : (L2 (lstk s j)).length ≤ 32 := by simp [L2]; omega
        go_wp2_with (first | (go_at_call 26; refine (has_any s j hs hlt _).mono ?_; rintro e w1 ⟨rfl, rfl⟩; rw [hbit]) | (at_builtin; refine Hid.out ?_))
        have bl := below_lit w1 (.cells #[.int .i64 (j : Int)] 3)
        have hv2 := owns_below hv.out bl
        have B1 := bnext hb bl
        refine wpList_cat _ rfl (.tmp 11) (.tmp 13) 22 rfl w.heap.size 3 i0 _ 1 8 Tryd.underlying22 hi0 hz0 hz1 hz2 rfl (by omega) _ _ _ rfl hv2 (some ⟨w1.heap.size, 0, none⟩) 1 _ [.int .i64 (j : Int)] rfl rfl (cat_lit _ _ _ _ rfl) (int_one _) (by unfold maxLen; omega) (by omega) B1.size ?_
        intro v3 w3 hr3 hg3 hv3
        go_wp2_with fail
        go_roundw
        case rel =>
          refine ⟨j + 1, by omega, by go_num, ?_, ?_⟩
          · rw [hse.out]
            unfold NOwn
            simpa [L2, I] using hr3
          · exact B1.grown hg3 B1.size (fun k hk => (hv2.lt k hk).1)
        case measure => simp [intOf]; omega
    · have hje : j = 32 := by omega
      subst hje
      go_wp2
      go_ret
      exact ⟨_, rfl, hv, hb⟩

end Go.Proofs.YtebdlcgegdobkaaDoor
