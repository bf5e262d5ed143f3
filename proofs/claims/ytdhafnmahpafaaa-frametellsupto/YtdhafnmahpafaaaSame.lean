/- What SameFrames answers of frames that are the same: true. -/
import Derived.Test.YtdhafnmahpafaaaPut
import Derived.WalkSmall
namespace Go.Proofs.Ytdhafnmahpafaaa
open Go.RowKit

/-- These frames lie behind the address a. -/
def FAt (w : World) (a : Option Addr) (its : List It) : Prop :=
  (its ≠ [] → ∃ b o, a = some ⟨b, o, none⟩ ∧ ∀ j (h : j < its.length), w.cell? ⟨b, o + j * 2, none⟩ = some (.int .u8 (its[j].k.toNat : Int)) ∧ w.cell? ⟨b, o + j * 2 + 1, none⟩ = some (.slice its[j].a its[j].body.length its[j].c)) ∧ ∀ i ∈ its, At w i.a i.body

theorem FAt.below {w w' : World} {a : Option Addr} {its : List It} (h : FAt w a its) (hb : Below w.heap.size w w') : FAt w' a its := by
  refine ⟨fun hne => ?_, fun i hi => (h.2 i hi).below hb⟩
  obtain ⟨b, o, rfl, hc⟩ := h.1 hne
  refine ⟨b, o, rfl, fun j hj => ?_⟩
  obtain ⟨h1, h2⟩ := hc j hj
  have hlt : b < w.heap.size := World.block_lt_of_cell? w _ h1
  exact ⟨by rw [hb.cell (p := ⟨b, o + j * 2, none⟩) hlt]; exact h1, by rw [hb.cell (p := ⟨b, o + j * 2 + 1, none⟩) hlt]; exact h2⟩

theorem cells_get (its : List It) (j : Nat) (h : j < its.length) : (its.flatMap It.cells)[j * 2]? = some (.int .u8 (its[j].k.toNat : Int)) ∧ (its.flatMap It.cells)[j * 2 + 1]? = some (.slice its[j].a its[j].body.length its[j].c) := by
  induction its generalizing j with
  | nil => simp at h
  | cons i r ih =>
    cases j with
    | zero => simp [List.flatMap_cons, It.cells]
    | succ j =>
      have := ih j (by simpa using h)
      rw [List.flatMap_cons]
      simp only [It.cells, show (j + 1) * 2 = j * 2 + 2 by omega, show j * 2 + 2 + 1 = j * 2 + 1 + 2 by omega, List.cons_append, List.nil_append, List.getElem?_cons_succ, List.getElem_cons_succ]
      exact this

theorem Frs.fat {w : World} {D : Nat → Prop} {a : Option Addr} {n c : Nat} {its : List It} (h : Frs w D (.slice a n c) its) : FAt w a its := by
  refine ⟨fun hne => ?_, fun i hi => (h.2.2 i hi).at⟩
  rcases h.1.2 with ⟨he, hn⟩ | ⟨g, cap, cur, hv, _, hg, _, _, _, ht⟩
  · exact absurd (List.eq_nil_of_length_eq_zero hn) hne
  · simp only [Value.slice.injEq] at hv
    obtain ⟨rfl, _, _⟩ := hv
    refine ⟨g, 0, rfl, fun j hj => ?_⟩
    obtain ⟨h1, h2⟩ := cells_get its j hj
    rw [← ht, List.getElem?_take, if_pos (by omega)] at h1 h2
    constructor
    · rw [Nat.zero_add]; simp [World.cell?, hg]; simpa using h1
    · rw [Nat.zero_add]; simp [World.cell?, hg]; simpa using h2

set_option maxRecDepth 100000 in
set_option maxHeartbeats 1000000 in
theorem samef_any (a1 a2 : Option Addr) (n1 n2 c1 c2 : Nat) (s1 s2 : List It) (w : World) (h1 : s1.length = n1) (h2 : s2.length = n2) (hn : n1 ≤ 4611686018427387904) (f1 : FAt w a1 s1) (f2 : FAt w a2 s2) (h : s1.map It.fr = s2.map It.fr) :
    Calls Try.prog 21 #[.slice a1 n1 c1, .slice a2 n2 c2] w fun e w' => e = .returned (.bool true) ∧ Below w.heap.size w w' := by
  have hl : s1.length = s2.length := by have := congrArg List.length h; simpa using this
  have h12 : n1 = n2 := by omega
  subst h12
  have hel : ∀ j (hj : j < s1.length), s1[j].k = s2[j].k ∧ s1[j].body = s2[j].body := by
    intro j hj
    have : (s1.map It.fr)[j]? = (s2.map It.fr)[j]? := by rw [h]
    rw [List.getElem?_map, List.getElem?_map, List.getElem?_eq_getElem hj, List.getElem?_eq_getElem (by omega)] at this
    simpa [It.fr] using this
  replace h := hid h
  go_enter Try.func21, Try.ntmps21
  go_wp2
  go_loopw [5] (fun i wr => ∃ j : Nat, j ≤ n1 ∧ i = .int .i64 j ∧ Below w.heap.size w wr) (fun i _ => n1 - (intOf i).toNat)
  case atStart => exact ⟨0, Nat.zero_le _, rfl, Below.refl _ _⟩
  case round =>
    obtain ⟨j, hj, rfl, hb⟩ := hrel
    by_cases hlt : j < n1
    · have g1 := f1.below hb
      have g2 := f2.below hb
      obtain ⟨b1, o1, rfl, hc1⟩ := g1.1 (by intro e; subst e; simp at h1; omega)
      obtain ⟨b2, o2, rfl, hc2⟩ := g2.1 (by intro e; subst e; simp at h2; omega)
      obtain ⟨x1, y1⟩ := hc1 j (by omega)
      obtain ⟨x2, y2⟩ := hc2 j (by omega)
      obtain ⟨e1, e2⟩ := hel j (by omega)
      have at1 := g1.2 s1[j] (List.getElem_mem _)
      have at2 := g2.2 s2[j] (List.getElem_mem _)
      rw [← e1] at x2
      rw [← e2] at y2 at2
      generalize s1[j].k = k at *
      generalize s1[j].body = bd at *
      generalize s1[j].a = aa at *
      generalize s1[j].c = ca at *
      generalize s2[j].a = ab at *
      generalize s2[j].c = cb at *
      have hcall : ∀ q, Calls Try.prog 16 #[.slice aa bd.length ca, .slice ab bd.length cb] (wr.drewN q) fun e w' => e = .returned (.bool true) ∧ w' = wr.drewN q := fun q => same_any aa ab bd.length bd.length ca cb bd bd (wr.drewN q) rfl rfl (at1.below (below_drewN (Below.refl _ _) _)) (at2.below (below_drewN (Below.refl _ _) _)) rfl
      clear hc1 hc2 hel at1 at2 g1 g2 f1 f2 e1 e2
      generalize bd.length = m at *
      replace h1 := hid h1
      replace h2 := hid h2
      replace hl := hid hl
      go_wp2_with fail
      go_quiet (first | (go_at_call 16; exact Calls.quiet_of_same (hcall _)))
      replace hb := below_drewN hb nq
      generalize wr.drewN nq = w3 at *
      go_wp2
      go_roundw
      case rel => exact ⟨j + 1, by omega, by go_num, hb⟩
      case measure => simp [intOf]; omega
    · have hjn : j = n1 := by omega
      subst hjn
      go_wp2
      go_ret
      exact ⟨rfl, hb⟩
end Go.Proofs.Ytdhafnmahpafaaa
