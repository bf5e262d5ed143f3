/- SameRecords of equal records. -/
import Derived.Test.YtcbgnodmamcmkaaBehind
import Derived.BigQuiet
namespace Go.Proofs.Ytcbgnodmamcmkaa
open Go.RowKit

/-- A record, and where its body lies. -/
structure Rm where
  n : Int
  k : Int
  b : List UInt8
  a : Option Addr
  c : Nat
def Rm.cells (i : Rm) : List Value := [.int .i64 i.n, .int .u8 i.k, .slice i.a i.b.length i.c]
def Rm.plain (i : Rm) : Int × Int × List UInt8 := (i.n, i.k, i.b)

theorem rmLen (xs : List Rm) : (xs.flatMap Rm.cells).length = xs.length * 3 := by
  induction xs with
  | nil => rfl
  | cons i xs ih => rw [List.flatMap_cons, List.length_append, ih]; simp [Rm.cells]; omega

theorem rm_get : ∀ (xs : List Rm) (j k : Nat) (h : j < xs.length), k < 3 → (xs.flatMap Rm.cells)[j * 3 + k]? = (Rm.cells xs[j])[k]? := by
  intro xs
  induction xs with
  | nil => intro j k h; simp at h
  | cons i xs ih =>
    intro j k h hk
    rw [List.flatMap_cons]
    cases j with
    | zero =>
      rw [List.getElem?_append_left (by simp [Rm.cells]; omega)]
      simp
    | succ j =>
      rw [List.getElem?_append_right (by simp [Rm.cells]; omega)]
      have := ih j k (by simpa using h) hk
      have e : (j + 1) * 3 + k - (Rm.cells i).length = j * 3 + k := by simp [Rm.cells]; omega
      rw [e, this]
      simp

/-- These records lie behind the address a. -/
def RAt (w : World) (a : Option Addr) (xs : List Rm) : Prop := CAt w a (xs.flatMap Rm.cells) ∧ ∀ i ∈ xs, At w i.a i.b
theorem RAt.below {w w' : World} {a : Option Addr} {xs : List Rm} (h : RAt w a xs) (hb : Below w.heap.size w w') : RAt w' a xs := ⟨h.1.below hb, fun i hi => (h.2 i hi).below hb⟩

theorem rat_form {w : World} {a : Option Addr} {xs : List Rm} (h : RAt w a xs) (hne : xs ≠ []) :
    ∃ b o, a = some ⟨b, o, none⟩ ∧ ∀ j (hj : j < xs.length), w.cell? ⟨b, o + j * 3, none⟩ = some (.int .i64 xs[j].n) ∧ w.cell? ⟨b, o + j * 3 + 1, none⟩ = some (.int .u8 xs[j].k) ∧ w.cell? ⟨b, o + j * 3 + 2, none⟩ = some (.slice xs[j].a xs[j].b.length xs[j].c) := by
  have hlen := rmLen xs
  have hp : 0 < xs.length := List.length_pos_iff.2 hne
  obtain ⟨b, o, rfl, hc⟩ := h.1 (by intro e; rw [e] at hlen; simp at hlen; omega)
  refine ⟨b, o, rfl, fun j hj => ?_⟩
  have key : ∀ k v, k < 3 → (Rm.cells xs[j])[k]? = some v → w.cell? ⟨b, o + (j * 3 + k), none⟩ = some v := by
    intro k v hk hv
    have hlt : j * 3 + k < (xs.flatMap Rm.cells).length := by rw [hlen]; omega
    rw [hc _ hlt]
    have := rm_get xs j k hj hk
    rw [hv, List.getElem?_eq_getElem hlt] at this
    exact this
  exact ⟨key 0 _ (by omega) rfl, key 1 _ (by omega) rfl, key 2 _ (by omega) rfl⟩

set_option maxRecDepth 100000 in
set_option maxHeartbeats 2000000 in
theorem samer_any (a1 a2 : Option Addr) (n1 n2 c1 c2 : Nat) (s1 s2 : List Rm) (w : World) (h1 : s1.length = n1) (h2 : s2.length = n2) (hn : n1 ≤ 1000000000) (f1 : RAt w a1 s1) (f2 : RAt w a2 s2) (h : s1.map Rm.plain = s2.map Rm.plain) :
    Calls Try.prog 17 #[.slice a1 n1 c1, .slice a2 n2 c2] w fun e w' => e = .returned (.bool true) ∧ Below w.heap.size w w' := by
  have hl : s1.length = s2.length := by have := congrArg List.length h; simpa using this
  have h12 : n1 = n2 := by omega
  subst h12
  have hel : ∀ j (hj : j < s1.length), s1[j].n = s2[j].n ∧ s1[j].k = s2[j].k ∧ s1[j].b = s2[j].b := by
    intro j hj
    have : (s1.map Rm.plain)[j]? = (s2.map Rm.plain)[j]? := by rw [h]
    rw [List.getElem?_map, List.getElem?_map, List.getElem?_eq_getElem hj, List.getElem?_eq_getElem (by omega)] at this
    simpa [Rm.plain] using this
  replace h := hid h
  go_enter Try.func17, Try.ntmps17
  go_wp2
  go_loopw [5] (fun i wr => ∃ j : Nat, j ≤ n1 ∧ i = .int .i64 j ∧ Below w.heap.size w wr) (fun i _ => n1 - (intOf i).toNat)
  case atStart => exact ⟨0, Nat.zero_le _, rfl, Below.refl _ _⟩
  case round =>
    obtain ⟨j, hj, rfl, hb⟩ := hrel
    by_cases hlt : j < n1
    · have g1 := f1.below hb
      have g2 := f2.below hb
      obtain ⟨b1, o1, rfl, hc1⟩ := rat_form g1 (by intro e; subst e; simp at h1; omega)
      obtain ⟨b2, o2, rfl, hc2⟩ := rat_form g2 (by intro e; subst e; simp at h2; omega)
      obtain ⟨x1, y1, z1⟩ := hc1 j (by omega)
      obtain ⟨x2, y2, z2⟩ := hc2 j (by omega)
      obtain ⟨e0, e1, e2⟩ := hel j (by omega)
      have at1 := g1.2 s1[j] (List.getElem_mem _)
      have at2 := g2.2 s2[j] (List.getElem_mem _)
      rw [← e0] at x2
      rw [← e1] at y2
      rw [← e2] at z2 at2
      generalize s1[j].n = nm at *
      generalize s1[j].k = k at *
      generalize s1[j].b = bd at *
      generalize s1[j].a = aa at *
      generalize s1[j].c = ca at *
      generalize s2[j].a = ab at *
      generalize s2[j].c = cb at *
      have hcall : ∀ q, Calls Try.prog 10 #[.slice aa bd.length ca, .slice ab bd.length cb] (wr.drewN q) fun e w' => e = .returned (.bool true) ∧ w' = wr.drewN q := fun q => same_any aa ab bd.length bd.length ca cb bd bd (wr.drewN q) rfl rfl (at1.below (below_drewN (Below.refl _ _) _)) (at2.below (below_drewN (Below.refl _ _) _)) rfl
      clear hc1 hc2 hel at1 at2 g1 g2 f1 f2 e0 e1 e2
      generalize bd.length = m at *
      replace h1 := hid h1
      replace h2 := hid h2
      replace hl := hid hl
      go_wp2_with fail
      go_quiet (first | (go_at_call 10; exact Calls.quiet_of_same (hcall _)))
      replace hb := below_drewN hb nq
      generalize wr.drewN nq = w3 at *
      go_wp2
      go_roundw
      case rel => exact ⟨j + 1, by omega, by go_num, hb⟩
      case measure => simp [intOf]; omega
    · have hjn : j = n1 := by omega
      subst hjn
      go_wp2
      go_ret
      exact ⟨rfl, hb⟩
end Go.Proofs.Ytcbgnodmamcmkaa
