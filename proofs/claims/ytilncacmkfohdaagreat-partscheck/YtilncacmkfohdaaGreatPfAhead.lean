/- ahead, closedTill. -/
import Derived.Test.YtilncacmkfohdaaGreatPfClosed
namespace Go.Proofs.YtilncacmkfohdaaGreat.Pf
open Go.RowKit

/-- These spans lie behind a. -/
def SpAt (w : World) (a : Option Addr) (L : List Span) : Prop := CAt w a (L.flatMap sc)
theorem SpAt.below {w w' : World} {a : Option Addr} {L : List Span} (h : SpAt w a L) (hb : Below w.heap.size w w') : SpAt w' a L := CAt.below h hb
theorem SpAt.kp {S : Nat → Prop} {w w' : World} {a : Option Addr} {L : List Span} (h : SpAt w a L) (hk : Kp S w w') (hn : ∀ x, a = some x → ¬ S x.block) : SpAt w' a L := CAt.kp h hk hn
theorem sc_ne {L : List Span} (h : 0 < L.length) : L.flatMap sc ≠ [] := by
  intro e
  have := congrArg List.length e
  rw [sc_len] at this
  simp at this
  omega
theorem SpAt.place {w : World} {a : Option Addr} {L : List Span} (h : SpAt w a L) (h0 : 0 < L.length) : ∃ b o, a = some ⟨b, o, none⟩ := by
  obtain ⟨b, o, e, _⟩ := h (sc_ne h0)
  exact ⟨b, o, e⟩
theorem SpAt.one {w : World} {b o : Nat} {L : List Span} (h : SpAt w (some ⟨b, o, none⟩) L) {i : Nat} (hi : i < L.length) :
    w.cell? ⟨b, o + i * 2, none⟩ = some (.int .i64 (sp L i).1) ∧ w.cell? ⟨b, o + i * 2 + 1, none⟩ = some (.int .i64 (sp L i).2) := by
  obtain ⟨b', o', e, hc⟩ := h (sc_ne (by omega))
  cases e
  obtain ⟨h0, h1⟩ := sc_get L hi
  have hlen := sc_len L
  have k0 := hc (i * 2) (by omega)
  have k1 := hc (i * 2 + 1) (by omega)
  rw [List.getElem?_eq_getElem (by omega)] at h0 h1
  rw [k0, h0, Nat.add_assoc, k1, h1]
  exact ⟨rfl, rfl⟩

theorem SpAt.drop {w : World} {b o : Nat} {L : List Span} (h : SpAt w (some ⟨b, o, none⟩) L) (j : Nat) : SpAt w (some ⟨b, o + j * 2, none⟩) (L.drop j) := by
  intro hne
  have hlen : j < L.length := by
    rcases Nat.lt_or_ge j L.length with h1 | h1
    · exact h1
    · rw [List.drop_eq_nil_of_le h1] at hne; simp at hne
  obtain ⟨b', o', e, hc⟩ := h (sc_ne (by omega))
  cases e
  refine ⟨b, o + j * 2, rfl, fun i hi => ?_⟩
  have hfd : ∀ (M : List Span) (k : Nat), (M.drop k).flatMap sc = (M.flatMap sc).drop (k * 2) := by
    intro M
    induction M with
    | nil => intro k; simp
    | cons s M ih =>
      intro k
      cases k with
      | zero => simp
      | succ k =>
        rw [List.drop_succ_cons, ih k, List.flatMap_cons, show (k + 1) * 2 = 2 + k * 2 by omega, ← List.drop_drop]
        rfl
  have hi2 := hi
  simp only [hfd L j] at hi2 ⊢
  rw [List.length_drop] at hi2
  rw [List.getElem_drop, Nat.add_assoc]
  exact hc _ (by omega)

theorem ah_drop {t : Int} {L : List Span} {j : Nat} (hj : j ≤ L.length) (h : ∀ i, i < j → (sp L i).2 ≤ t) : ah t L = ah t (L.drop j) := by
  induction j with
  | zero => simp
  | succ j ih =>
    rw [ih (by omega) (fun i hi => h i (by omega))]
    have hjl : j < L.length := by omega
    have e : L.drop j = L[j] :: L.drop (j + 1) := List.drop_eq_getElem_cons hjl
    rw [e]
    unfold ah
    rw [List.dropWhile_cons, if_pos]
    rw [sp_eq hjl]
    exact decide_eq_true (h j (by omega))

theorem ah_stop {t : Int} {L : List Span} {j : Nat} (hj : j < L.length) (h : t < (sp L j).2) : ah t (L.drop j) = L.drop j := by
  have e : L.drop j = L[j] :: L.drop (j + 1) := List.drop_eq_getElem_cons hj
  rw [e]
  unfold ah
  rw [List.dropWhile_cons, if_neg]
  rw [sp_eq hj]
  simp; omega

/-- What is left, where it lies. -/
def ATold (b : Nat) (L : List Span) (w : World) (e : Ending) (w' : World) : Prop := w' = w ∧ ∃ o c, e = .returned (.slice (some ⟨b, o, none⟩) L.length c) ∧ L.length ≤ c ∧ SpAt w (some ⟨b, o, none⟩) L

set_option maxRecDepth 100000 in
set_option maxHeartbeats 800000 in
theorem ahead_some (b o n c : Nat) (L : List Span) (t : Int) (w : World) (hn : L.length = n) (hl : n ≤ 100000) (hc : n ≤ c) (hat : SpAt w (some ⟨b, o, none⟩) L) :
    Calls Tryz.prog 26 #[.slice (some ⟨b, o, none⟩) n c, .int .i64 t] w fun e w' => ATold b (ah t L) w e w' := by
  replace hn := hid hn
  replace hat := hid hat
  go_enter Tryz.func26, Tryz.ntmps26
  go_wp2_with fail
  go_loopw [0] (fun v wr => wr = w ∧ ∃ j x : Nat, j ≤ n ∧ v = .slice (some ⟨b, x, none⟩) (n - j) (c - j) ∧ (j < n → x = o + j * 2) ∧ Hid (∀ i, i < j → (sp L i).2 ≤ t)) (fun v _ => match v with | .slice _ m _ => m | _ => 0)
  case atStart => exact ⟨rfl, 0, o, Nat.zero_le _, by simp, fun _ => by omega, hid (fun i hi => absurd hi (by omega))⟩
  case round =>
    obtain ⟨rfl, j, x, hj, rfl, hx, hlow⟩ := hrel
    by_cases hlt : j < n
    · have hjL : j < L.length := by rw [hn.out]; exact hlt
      have hxe := hx hlt
      subst hxe
      clear hx
      have x1 := (hat.out.one hjL).2
      obtain ⟨m, hm⟩ : ∃ m, n - j = m + 1 := ⟨n - j - 1, by omega⟩
      obtain ⟨q, hq⟩ : ∃ q, c - j = q + 1 := ⟨c - j - 1, by omega⟩
      rw [hm, hq]
      have d0 : decide ((0 : Int) < (m : Int) + 1) = true := decide_eq_true (by omega)
      by_cases h1 : (sp L j).2 ≤ t
      · have d1 : decide ((sp L j).2 ≤ t) = true := decide_eq_true h1
        have hlow2 := hid (show ∀ i, i < j + 1 → (sp L i).2 ≤ t from fun i hi => by
          rcases Nat.lt_or_ge i j with h2 | h2
          · exact hlow.out i h2
          · have : i = j := by omega
            subst this; exact h1)
        have hmq : m ≤ q := by omega
        generalize (sp L j).2 = X at *
        have hn1 : n - (j + 1) = m := by omega
        have hc1 : c - (j + 1) = q := by omega
        go_wp2_with fail
        refine ⟨⟨trivial, j + 1, if q = 0 then o + j * 2 else o + j * 2 + 2, by omega, ?_, fun h => ?_, hlow2⟩, by show m < m + 1; omega⟩
        · rw [hn1, hc1]; split <;> rfl
        · rw [if_neg (by omega)]; omega
      · have d1 : decide ((sp L j).2 ≤ t) = false := decide_eq_false h1
        have hf := hid ((ah_drop (by omega) hlow.out).trans (ah_stop hjL (by omega)))
        have hl2 := hid (show (L.drop j).length = m + 1 by rw [List.length_drop, hn.out]; exact hm)
        have hs2 := hid (hat.out.drop j)
        generalize (sp L j).2 = X at *
        go_wp2
        go_ret
        rw [hf.out]
        exact ⟨rfl, _, _, by rw [hl2.out]; rfl, by rw [hl2.out]; omega, hs2.out⟩
    · have hje : j = n := by omega
      subst hje
      have hf := hid (ah_drop (t := t) (L := L) (j := j) (by rw [hn.out]; omega) hlow.out)
      have hf2 := hid (show ah t L = [] by rw [hf.out, List.drop_eq_nil_of_le (by rw [hn.out]; omega)]; rfl)
      have hz : j - j = 0 := by omega
      rw [hz]
      clear hx
      go_wp2
      go_ret
      rw [hf2.out]
      exact ⟨rfl, x, _, rfl, Nat.zero_le _, CAt.nil _ _⟩

theorem ahead_none (c : Nat) (t : Int) (w : World) : Calls Tryz.prog 26 #[.slice none 0 c, .int .i64 t] w fun e w' => e = .returned (.slice none 0 c) ∧ w' = w := by
  go_enter Tryz.func26, Tryz.ntmps26
  go_wp2_with fail
  refine wp_loop_rounds 1 ?_
  rw [rounds_succ]
  go_wp2
  go_ret
  exact ⟨rfl, rfl⟩

theorem till_any (a : Option Addr) (n c : Nat) (L : List Span) (t : Int) (w : World) (hn : L.length = n) (hl : n ≤ 100000) (hat : SpAt w a L) :
    Calls Tryz.prog 27 #[.slice a n c, .int .i64 t] w fun e w' => e = .returned (.tuple #[.int .i64 (till L t).1, .bool (till L t).2]) ∧ w' = w := by
  cases L with
  | nil =>
    simp at hn
    subst hn
    clear hat
    go_enter Tryz.func27, Tryz.ntmps27
    go_wp2
    go_ret2
    exact ⟨rfl, rfl⟩
  | cons s M =>
    obtain ⟨b, o, e⟩ := hat.place (by simp)
    subst e
    obtain ⟨x0, x1⟩ := hat.one (i := 0) (by simp)
    rw [show sp (s :: M) 0 = s from rfl, Nat.zero_mul, Nat.add_zero] at x0 x1
    obtain ⟨m, hm⟩ : ∃ m, n = m + 1 := ⟨M.length, by rw [← hn]; rfl⟩
    subst hm
    have d0 : ((m : Int) + 1 == 0) = false := by simp; omega
    obtain ⟨X, Y⟩ := s
    dsimp only at x0 x1
    clear hn hat
    by_cases h : t < X
    · have d1 : decide (t < X) = true := decide_eq_true h
      have hf := hid (show till ((X, Y) :: M) t = (0, false) from if_pos h)
      go_enter Tryz.func27, Tryz.ntmps27
      go_wp2
      go_ret2
      rw [hf.out]
      exact ⟨rfl, rfl⟩
    · have d1 : decide (t < X) = false := decide_eq_false h
      have hf := hid (show till ((X, Y) :: M) t = (Y, true) from if_neg h)
      go_enter Tryz.func27, Tryz.ntmps27
      go_wp2
      go_ret2
      rw [hf.out]
      exact ⟨rfl, rfl⟩

end Go.Proofs.YtilncacmkfohdaaGreat.Pf
