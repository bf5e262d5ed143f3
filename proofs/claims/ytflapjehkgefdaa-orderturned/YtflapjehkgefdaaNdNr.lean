/- The document's side: right lists, copies, new nodes, nodes that fail and rise; whether lists are the same. -/
import Derived.Test.YtflapjehkgefdaaNdTurn
namespace Go.Proofs.Ytflapjehkgefdaa.Nd
open Go.RowKit

theorem node_no {L : List Nod} {j : Nat} (hj : j < L.length) (h : ¬ (1 ≤ (nodAt L j).1 ∧ (nodAt L j).1 ≤ 64 ∧ 1 ≤ (nodAt L j).2.2 ∧ (nodAt L j).2.2 ≤ 1073741824)) : rightB L = false := by
  unfold rightB
  rw [all_no hj (decide_eq_false h), Bool.and_false]

theorem copied_ofr {w w' : World} {L : List Nod} {g n cc : Nat} (h : DOwn w' w.heap.size (.slice (some ⟨g, 0, none⟩) n cc) L) (hn : L.length = n) {k : Nat} (hk : k < n) :
    g < w'.heap.size ∧ w.heap.size ≤ g ∧ (∀ i, w'.frozen? ⟨g, i, none⟩ = false) ∧ w'.cell? ⟨g, k * 3, none⟩ = some (.int .i64 (nodAt L k).1) ∧ w'.cell? ⟨g, k * 3 + 1, none⟩ = some (.bool (nodAt L k).2.1) ∧ w'.cell? ⟨g, k * 3 + 2, none⟩ = some (.int .i64 (nodAt L k).2.2) := by
  subst hn
  obtain ⟨g', c', e, hb, hgl, _, hfz⟩ := owns_spot h (by omega)
  simp only [Value.slice.injEq, Option.some.injEq, Addr.mk.injEq] at e
  obtain ⟨⟨e, _, _⟩, _, _⟩ := e
  subst e
  have h1 := h.dat.one hk
  simp only [Nat.zero_add] at h1
  exact ⟨hgl, hb, hfz, h1⟩

set_option maxHeartbeats 400000 in
theorem samei_any (a b : Option Addr) (n c d : Nat) (L : List Int) (w : World) (hn : L.length = n) (hl : n ≤ 4611686018427387904) (ha : CAt w a (L.map I)) (hb : CAt w b (L.map I)) :
    Calls Try.prog 11 #[.slice a n c, .slice b n d] w fun e w' => e = .returned (.bool true) ∧ Below w.heap.size w w' := by
  replace hn := hid hn
  replace ha := hid ha
  replace hb := hid hb
  go_enter Try.func11, Try.ntmps11
  go_wp2_with fail
  go_loopw [5] (fun i wr => ∃ j : Nat, j ≤ n ∧ i = .int .i64 (j : Int) ∧ Below w.heap.size w wr) (fun i _ => n - (intOf i).toNat)
  case atStart => exact ⟨0, Nat.zero_le _, rfl, Below.refl _ _⟩
  case round =>
    obtain ⟨j, hj, rfl, hbw⟩ := hrel
    by_cases hlt : j < n
    · have hjL : j < L.length := by rw [hn.out]; exact hlt
      have hne : L ≠ [] := by intro e; rw [e] at hjL; simp at hjL
      obtain ⟨b1, o1, e⟩ := iat_place ha.out hne
      subst e
      obtain ⟨b2, o2, e⟩ := iat_place hb.out hne
      subst e
      have x0 := iat_cell (CAt.below ha.out hbw) j hjL
      have y0 := iat_cell (CAt.below hb.out hbw) j hjL
      replace hne := hid hne
      generalize L[j] = X at *
      go_wp2_with fail
      go_quiet (fail)
      have bd := below_drewN hbw nq
      generalize wr.drewN nq = wq at *
      go_wp2_with fail
      go_roundw
      case rel => exact ⟨j + 1, by omega, by go_num, bd⟩
      case measure => simp [intOf]; omega
    · have hje : j = n := by omega
      subst hje
      go_wp2
      go_ret
      exact ⟨rfl, hbw⟩

end Go.Proofs.Ytflapjehkgefdaa.Nd
