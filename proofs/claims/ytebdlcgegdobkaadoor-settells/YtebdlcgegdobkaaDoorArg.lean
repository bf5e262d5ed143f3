/- What a []int among the arguments is: so many numbers behind its address; within the reach. -/
import Derived.Test.YtebdlcgegdobkaaDoorNums
import Derived.WalkKit
import Derived.ProofKit
import Derived.OpenShut
import Derived.SizedLaws
namespace Go.Proofs.YtebdlcgegdobkaaDoor
open Go.ChangeShapes Go.WideShapes Go.ChangeAt Go.RowKit

theorem bytes3 : Tryd.prog.bytesOf 3 = 8 := by kernel_rfl

theorem ints_arg {H : Type} {enc : TypeId × Value → H} {W : World} {base : Nat} {a0 : Option Addr} {len0 cap0 : Nat} {d0 : DataW H} {p0 : List MemPlace}
    (h0 : DataW.Trod enc Tryd.prog W base (fun _ => true) true 22 (.slice a0 len0 cap0) d0 p0) :
    ∃ Z : List Int, Z.length = len0 ∧ CAt W a0 (Z.map I) ∧ len0 ≤ cap0 ∧ ((d0 = .nil ∧ cap0 = 0) ∨ ∃ elems spare, d0 = .slice elems spare ∧ elems.length + spare.length = cap0) := by
  obtain ⟨fuel, hf⟩ := h0
  rcases open_ints Tryd.underlying22 Tryd.underlying3 (by kernel_rfl) hf with ⟨hcs, hx⟩ | ⟨x, n, c, zs, hcs, _, hl, hm, hz, hx, hcell, hwz⟩
  · simp [Value.cells] at hcs
    obtain ⟨rfl, rfl, rfl⟩ := hcs
    simp only [Prod.mk.injEq] at hx
    exact ⟨[], rfl, CAt.nil _ _, Nat.le_refl _, .inl ⟨hx.1, rfl⟩⟩
  · simp [Value.cells] at hcs
    obtain ⟨rfl, rfl, rfl⟩ := hcs
    have hz' : zs.length = cap0 := by simpa using hz
    simp only [Prod.mk.injEq] at hx
    refine ⟨zs.take len0, by rw [List.length_take]; omega, ?_, hl, .inr ⟨_, _, hx.1, by simp [lits]; omega⟩⟩
    intro hne
    have hpos : 0 < zs.length := by
      rcases Nat.eq_zero_or_pos zs.length with h | h
      · exfalso; apply hne; rw [List.eq_nil_of_length_eq_zero h]; simp
      · exact h
    obtain ⟨b, o, spot⟩ := x
    have hc0 := hcell 0 (by omega)
    have hspot : spot = none := by simpa [Addr.add] using World.cell?_spot hc0
    subst hspot
    refine ⟨b, o, rfl, fun i hi => ?_⟩
    have hi2 : i < zs.length := by simp at hi; omega
    have hplain : (⟨b, o, none⟩ : Addr).add i = ⟨b, o + i, none⟩ := by unfold Addr.add; split <;> simp_all
    have hc := hcell i (by omega)
    rw [hplain] at hc
    rw [hc]
    simp [I, List.getD, hi2]

theorem reach_ints {H : Type} {ts : List TypeId} {ds : List (DataW H)} (hsz : (DataW.weightsEach Tryd.prog ts ds).all (· ≤ reachBytes) = true) {j : Nat} {d0 : DataW H} {cap0 : Nat} (ht : ts[j]? = some 22) (hd : ds[j]? = some d0)
    (h : (d0 = .nil ∧ cap0 = 0) ∨ ∃ elems spare, d0 = .slice elems spare ∧ elems.length + spare.length = cap0) : cap0 * 8 ≤ 140737488351232 := by
  rcases h with ⟨_, rfl⟩ | ⟨elems, spare, rfl, rfl⟩
  · omega
  · have := sized_slice hsz (j := j) (t := 22) (e := 3) ht hd Tryd.underlying22
    rw [bytes3] at this
    have h2 : reachBytes = 140737488351232 := rfl
    omega

end Go.Proofs.YtebdlcgegdobkaaDoor
