/- What a [][]byte among the arguments is. -/
import Derived.Test.YtgjjgfppolmkoaaArg
import Derived.Test.YtgjjgfppolmkoaaSparesBase
import Derived.Lib.SmallJoins
import Derived.Deep.SlicePairs
namespace Go.Proofs.Ytgjjgfppolmkoaa
open Go.ChangeShapes Go.WideShapes Go.ChangeAt Go.RowKit

theorem bytes_cell {H : Type} {enc : TypeId × Value → H} {W : World} {base n : Nat} {V : Value} {y : DataW H × List MemPlace}
    (h : DataW.trod enc Try.prog W base (fun _ => true) true n 27 [V] = some y) : ∃ t : Option Addr × Nat × List UInt8, V = slT t ∧ At W t.1 t.2.2 := by
  have hV : ∃ a len cap, V = .slice a len cap := by
    rcases open_ints Try.underlying27 Try.underlying5 (by kernel_rfl) h with ⟨hcs, _⟩ | ⟨x, m, c, zs, hcs, _⟩
    · exact ⟨none, 0, 0, by simpa using hcs⟩
    · exact ⟨some x, m, c, by simpa using hcs⟩
  obtain ⟨a, len, cap, rfl⟩ := hV
  have hT : DataW.Trod enc Try.prog W base (fun _ => true) true 27 (.slice a len cap) y.1 y.2 := ⟨n, h⟩
  obtain ⟨l, hl, hat, _, _⟩ := bytes_arg hT
  exact ⟨(a, cap, l), by simp [slT, hl], hat⟩

theorem pieces_arg {H : Type} {enc : TypeId × Value → H} {W : World} {base : Nat} {a0 : Option Addr} {len0 cap0 : Nat} {d0 : DataW H} {p0 : List MemPlace}
    (h0 : DataW.Trod enc Try.prog W base (fun _ => true) true 65 (.slice a0 len0 cap0) d0 p0) : ∃ T : List (Option Addr × Nat × List UInt8), T.length = len0 ∧ CAt W a0 (T.map slT) ∧ ∀ t ∈ T, At W t.1 t.2.2 := by
  obtain ⟨fuel, hf⟩ := h0
  rcases Deep.open_slice1 Try.underlying65 (by kernel_rfl) hf with ⟨hcs, _⟩ | ⟨x, len, cap, m, n, V, D, Pl, hcs, _, hl, hm, hmm, hd, hx⟩
  · simp [Value.cells] at hcs
    obtain ⟨rfl, rfl, rfl⟩ := hcs
    exact ⟨[], rfl, fun h => absurd rfl h, by simp⟩
  · simp [Value.cells] at hcs
    obtain ⟨rfl, rfl, rfl⟩ := hcs
    have hmc : m = cap0 := by rw [hmm]; rfl
    have each : ∀ i, i < len0 → ∃ t : Option Addr × Nat × List UInt8, V i = slT t ∧ At W t.1 t.2.2 := fun i hi => by
      obtain ⟨_, h3⟩ := hx i (by omega)
      exact bytes_cell h3
    haveI : Inhabited (Option Addr × Nat × List UInt8) := ⟨(none, 0, [])⟩
    obtain ⟨f, hfp⟩ := Deep.choose_lt each
    refine ⟨(List.range len0).map f, by simp, fun hne => ?_, fun t ht => ?_⟩
    · have hpos : 0 < len0 := by
        rcases Nat.eq_zero_or_pos len0 with h | h
        · exact absurd (by simp [h]) hne
        · exact h
      obtain ⟨b, o, spot⟩ := x
      have hc0 := (hx 0 (by omega)).1
      have hspot : spot = none := by simpa [Addr.add] using World.cell?_spot hc0
      subst hspot
      refine ⟨b, o, rfl, fun j hj => ?_⟩
      have hj' : j < len0 := by simpa using hj
      obtain ⟨h1, _⟩ := hx j (by omega)
      have hplain : ∀ q, (⟨b, o, none⟩ : Addr).add q = ⟨b, o + q, none⟩ := fun q => by unfold Addr.add; split <;> simp_all
      rw [hplain] at h1
      simp only [List.getElem_map, List.getElem_range]
      rw [← (hfp j hj').1]
      exact h1
    · obtain ⟨j, hj, rfl⟩ := List.mem_map.1 ht
      exact (hfp j (List.mem_range.1 hj)).2

end Go.Proofs.Ytgjjgfppolmkoaa
