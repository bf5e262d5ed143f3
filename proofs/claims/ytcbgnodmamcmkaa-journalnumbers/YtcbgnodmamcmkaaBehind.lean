/- What behind answers: the records with numbers above one. -/
import Derived.Test.YtcbgnodmamcmkaaJops
import Derived.Test.YtcbgnodmamcmkaaRecs
namespace Go.Proofs.Ytcbgnodmamcmkaa
open Go.RowKit

theorem rxLen (l : List UInt8) (xs : List RX) : (xs.flatMap (RX.cells l)).length = xs.length * 3 := by
  induction xs with
  | nil => rfl
  | cons i xs ih => rw [List.flatMap_cons, List.length_append, ih]; simp [RX.cells]; omega

theorem rx_get (l : List UInt8) : ∀ (xs : List RX) (j k : Nat) (h : j < xs.length), k < 3 → (xs.flatMap (RX.cells l))[j * 3 + k]? = (RX.cells l xs[j])[k]? := by
  intro xs
  induction xs with
  | nil => intro j k h; simp at h
  | cons i xs ih =>
    intro j k h hk
    rw [List.flatMap_cons]
    cases j with
    | zero =>
      rw [List.getElem?_append_left (by simp [RX.cells]; omega)]
      simp
    | succ j =>
      rw [List.getElem?_append_right (by simp [RX.cells]; omega)]
      have := ih j k (by simpa using h) hk
      have e : (j + 1) * 3 + k - (RX.cells l i).length = j * 3 + k := by simp [RX.cells]; omega
      rw [e, this]
      simp

theorem rx_form {w : World} {a : Option Addr} {l : List UInt8} {xs : List RX} (h : CAt w a (xs.flatMap (RX.cells l))) (hne : xs ≠ []) :
    ∃ b o, a = some ⟨b, o, none⟩ ∧ ∀ j (hj : j < xs.length), w.cell? ⟨b, o + j * 3, none⟩ = some (.int .i64 (numAt l xs[j].p : Int)) ∧ w.cell? ⟨b, o + j * 3 + 1, none⟩ = some (.int .u8 ((kindAt l xs[j].p).toNat : Int)) ∧ w.cell? ⟨b, o + j * 3 + 2, none⟩ = some (.slice xs[j].a (sizeAt l xs[j].p - 9) xs[j].c) := by
  have hlen := rxLen l xs
  have hp : 0 < xs.length := List.length_pos_iff.2 hne
  obtain ⟨b, o, rfl, hc⟩ := h (by intro e; rw [e] at hlen; simp at hlen; omega)
  refine ⟨b, o, rfl, fun j hj => ?_⟩
  have key : ∀ k v, k < 3 → (RX.cells l xs[j])[k]? = some v → w.cell? ⟨b, o + (j * 3 + k), none⟩ = some v := by
    intro k v hk hv
    have hlt : j * 3 + k < (xs.flatMap (RX.cells l)).length := by rw [hlen]; omega
    rw [hc _ hlt]
    have := rx_get l xs j k hj hk
    rw [hv, List.getElem?_eq_getElem hlt] at this
    exact this
  exact ⟨key 0 _ (by omega) rfl, key 1 _ (by omega) rfl, key 2 _ (by omega) rfl⟩

theorem rx_drop {w : World} {b o : Nat} {l : List UInt8} {xs : List RX} (h : CAt w (some ⟨b, o, none⟩) (xs.flatMap (RX.cells l))) (j : Nat) : CAt w (some ⟨b, o + j * 3, none⟩) ((xs.drop j).flatMap (RX.cells l)) := by
  intro hne
  have hl := rxLen l xs
  have hl2 := rxLen l (xs.drop j)
  have hne2 : xs.flatMap (RX.cells l) ≠ [] := by
    intro e
    have h0 : xs.length = 0 := by
      rw [e, List.length_nil] at hl
      omega
    have h1 := List.length_eq_zero_iff.1 h0
    subst h1
    simp at hne
  obtain ⟨b', o', e, hc⟩ := h hne2
  cases e
  refine ⟨b, o + j * 3, rfl, fun i hi => ?_⟩
  have hj : j * 3 + i < (xs.flatMap (RX.cells l)).length := by
    rw [hl2] at hi
    rw [hl]
    simp only [List.length_drop] at hi
    omega
  rw [Nat.add_assoc, hc _ hj]
  congr 1
  have e3 : (xs.flatMap (RX.cells l)) = (xs.take j).flatMap (RX.cells l) ++ (xs.drop j).flatMap (RX.cells l) := by
    rw [← List.flatMap_append, List.take_append_drop]
  have hjl : j ≤ xs.length := by
    rw [hl2] at hi
    simp only [List.length_drop] at hi
    omega
  have e4 : ((xs.take j).flatMap (RX.cells l)).length = j * 3 := by rw [rxLen, List.length_take, Nat.min_eq_left hjl]
  have := List.getElem?_append_right (l₁ := (xs.take j).flatMap (RX.cells l)) (l₂ := (xs.drop j).flatMap (RX.cells l)) (i := j * 3 + i) (by omega)
  rw [← e3, e4, Nat.add_sub_cancel_left, List.getElem?_eq_getElem hj, List.getElem?_eq_getElem hi] at this
  exact Option.some.inj this

/-- How many records stand ahead of the first one above M. -/
def skipOf (l : List UInt8) (M : Nat) : List RX → Nat
  | [] => 0
  | x :: xs => if M < numAt l x.p then 0 else skipOf l M xs + 1

theorem skip_le (l : List UInt8) (M : Nat) (xs : List RX) : skipOf l M xs ≤ xs.length := by
  induction xs with
  | nil => exact Nat.le_refl _
  | cons x xs ih => unfold skipOf; split <;> simp; omega

theorem skip_at (l : List UInt8) (M : Nat) : ∀ (xs : List RX) (j : Nat), j ≤ xs.length → (∀ i (h : i < xs.length), i < j → numAt l xs[i].p ≤ M) → (∀ h : j < xs.length, M < numAt l xs[j].p) → skipOf l M xs = j := by
  intro xs
  induction xs with
  | nil => intro j hj _ _; simp at hj; subst hj; rfl
  | cons x xs ih =>
    intro j hj h1 h2
    unfold skipOf
    cases j with
    | zero => rw [if_pos (show M < numAt l x.p from h2 (by simp))]
    | succ j =>
      rw [if_neg (by have := h1 0 (by simp) (by omega); simp at this; omega)]
      rw [ih j (by simpa using hj) (fun i hi hij => by have := h1 (i + 1) (by simpa using hi) (by omega); simpa using this) (fun h => by have := h2 (by simpa using h); simpa using this)]

set_option maxRecDepth 100000 in
set_option maxHeartbeats 4000000 in
theorem behind_any (a : Option Addr) (n cap M : Nat) (l : List UInt8) (xs : List RX) (w : World) (hn : xs.length = n) (hnb : n ≤ 1000000000) (hcap : n ≤ cap) (hat : CAt w a (xs.flatMap (RX.cells l))) :
    Calls Try.prog 45 #[.slice a n cap, .int .i64 (M : Int)] w fun e w' => ∃ a' c', e = .returned (.slice a' (n - skipOf l M xs) c') ∧ n - skipOf l M xs ≤ c' ∧ CAt w' a' ((xs.drop (skipOf l M xs)).flatMap (RX.cells l)) ∧ (∀ ad, a' = some ad → ∃ ad0, a = some ad0 ∧ ad.block = ad0.block) ∧ Below w.heap.size w w' := by
  replace hn := hid hn
  go_enter Try.func45, Try.ntmps45
  go_wp2_with fail
  go_loopw [9] (fun i wr => ∃ (j : Nat), j ≤ n ∧ i = .int .i64 j ∧ Hid (∀ i (h : i < xs.length), i < j → numAt l xs[i].p ≤ M) ∧ Below w.heap.size w wr) (fun i _ => n - (intOf i).toNat)
  case atStart => exact ⟨0, Nat.zero_le _, rfl, hid (fun i _ h => by omega), Below.refl _ _⟩
  case round =>
    obtain ⟨j, hj, rfl, hA, hb⟩ := hrel
    by_cases hlt : j < n
    · have hxl : j < xs.length := by have := hn.out; omega
      obtain ⟨b, o, rfl, hc⟩ := rx_form (hat.below hb) (by intro e; subst e; simp at hxl)
      obtain ⟨c0, c1, c2⟩ := hc j hxl
      clear hc
      obtain ⟨X, hX⟩ : ∃ X, X = numAt l xs[j].p := ⟨_, rfl⟩
      obtain ⟨KD, hKD⟩ : ∃ KD : Int, KD = ((kindAt l xs[j].p).toNat : Int) := ⟨_, rfl⟩
      obtain ⟨SZ, hSZ⟩ : ∃ SZ, SZ = sizeAt l xs[j].p - 9 := ⟨_, rfl⟩
      obtain ⟨XA, hXA⟩ : ∃ XA, XA = xs[j].a := ⟨_, rfl⟩
      obtain ⟨XC, hXC⟩ : ∃ XC, XC = xs[j].c := ⟨_, rfl⟩
      rw [← hX] at c0
      rw [← hKD] at c1
      rw [← hSZ, ← hXA, ← hXC] at c2
      replace hX := hid hX
      clear hKD hSZ hXA hXC
      have hB := RBlk.new wr (.int .i64 (X : Int)) (.int .u8 KD) (.slice XA SZ XC)
      have bl := below_lit wr (.cells #[.int .i64 (X : Int), .int .u8 KD, .slice XA SZ XC] 27)
      have y0 := hB.cell0
      have hb2 := bnext hb bl
      by_cases hM : M < X
      · have hsk : skipOf l M xs = j := skip_at l M xs j (by omega) hA.out (fun _ => by have := hX.out; omega)
        have hatj := rx_drop (hat.below hb2) j
        replace hsk := hid hsk
        replace hatj := hid hatj
        replace hat := hid hat
        go_wp2
        go_ret
        rw [hsk.out]
        exact ⟨_, _, rfl, by omega, hatj.out, fun ad e => by cases e; exact ⟨_, rfl, rfl⟩, hb2⟩
      · have hA2 : ∀ i (h : i < xs.length), i < j + 1 → numAt l xs[i].p ≤ M := fun i h hij => by
          by_cases e : i = j
          · subst e; have := hX.out; omega
          · exact hA.out i h (by omega)
        replace hA2 := hid hA2
        replace hat := hid hat
        go_wp2
        go_roundw
        case rel => exact ⟨j + 1, by omega, by go_num, hA2, hb2⟩
        case measure => simp [intOf]; omega
    · have hjn : j = n := by omega
      subst hjn
      have hsk : skipOf l M xs = j := skip_at l M xs j (by have := hn.out; omega) hA.out (fun h => by have := hn.out; omega)
      have hdr : xs.drop j = [] := List.drop_eq_nil_iff.2 (by have := hn.out; omega)
      replace hsk := hid hsk
      replace hdr := hid hdr
      replace hat := hid hat
      go_wp2
      go_ret
      rw [hsk.out, hdr.out]
      exact ⟨none, 0, by simp, by omega, fun h => absurd rfl h, (fun ad e => by cases e), hb⟩
end Go.Proofs.Ytcbgnodmamcmkaa
