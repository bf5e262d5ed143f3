/- What a []api.Frame among the arguments is: so many frames behind the address. -/
import Derived.Test.YtdhafnmahpafaaaArg
import Derived.Deep.SlicePairs
namespace Go.Proofs.Ytdhafnmahpafaaa
open Go.ChangeShapes Go.WideShapes Go.ChangeAt Go.RowKit

theorem bytes_cell {H : Type} {enc : TypeId × Value → H} {W : World} {base n : Nat} {V : Value} {y : DataW H × List MemPlace}
    (h : DataW.trod enc Try.prog W base (fun _ => true) true n 22 [V] = some y) : ∃ a len cap, ∃ l : List UInt8, V = .slice a len cap ∧ l.length = len ∧ At W a l := by
  have hV : ∃ a len cap, V = .slice a len cap := by
    rcases open_ints Try.underlying22 Try.underlying5 (by kernel_rfl) h with ⟨hcs, _⟩ | ⟨x, m, c, zs, hcs, _⟩
    · exact ⟨none, 0, 0, by simpa using hcs⟩
    · exact ⟨some x, m, c, by simpa using hcs⟩
  obtain ⟨a, len, cap, rfl⟩ := hV
  have hT : DataW.Trod enc Try.prog W base (fun _ => true) true 22 (.slice a len cap) y.1 y.2 := ⟨n, h⟩
  obtain ⟨l, hl, hat, _, _⟩ := bytes_arg hT
  exact ⟨a, len, cap, l, rfl, hl, hat⟩

theorem byte_cell {H : Type} {enc : TypeId × Value → H} {W : World} {base n : Nat} {V : Value} {y : DataW H × List MemPlace}
    (h : DataW.trod enc Try.prog W base (fun _ => true) true n 5 [V] = some y) : ∃ k : UInt8, V = .int .u8 (k.toNat : Int) := by
  obtain ⟨m, hm, _, hw⟩ := DataW.trod_int Try.underlying5 h
  have hb := bounds_u8 hw
  refine ⟨UInt8.ofNat m.toNat, ?_⟩
  have e : V = .int .u8 m := by simpa using hm
  rw [e]
  congr 1
  simp
  omega

theorem frames_arg {H : Type} {enc : TypeId × Value → H} {W : World} {base : Nat} {a0 : Option Addr} {len0 cap0 : Nat} {d0 : DataW H} {p0 : List MemPlace}
    (h0 : DataW.Trod enc Try.prog W base (fun _ => true) true 30 (.slice a0 len0 cap0) d0 p0) : (∃ its : List It, its.length = len0 ∧ FAt W a0 its) ∧ len0 ≤ cap0 ∧ ((d0 = .nil ∧ cap0 = 0) ∨ ∃ elems spare, d0 = .slice elems spare ∧ elems.length + spare.length = cap0) := by
  obtain ⟨fuel, hf⟩ := h0
  rcases Deep.open_slice_pairs Try.underlying30 Try.underlying27 (by kernel_rfl) rfl rfl (by kernel_rfl) (by kernel_rfl) hf with ⟨hcs, hd⟩ | ⟨x, len, cap, m, n, V0, V1, D0, D1, P0, P1, hcs, _, hl, hm, hmm, hd, hx⟩
  · simp [Value.cells] at hcs
    obtain ⟨rfl, rfl, rfl⟩ := hcs
    simp only [Prod.mk.injEq] at hd
    exact ⟨⟨[], rfl, fun h => absurd rfl h, by simp⟩, Nat.zero_le _, .inl ⟨hd.1, rfl⟩⟩
  · simp [Value.cells] at hcs
    obtain ⟨rfl, rfl, rfl⟩ := hcs
    have hmc : m = cap0 := by rw [hmm]; rfl
    simp only [Prod.mk.injEq] at hd
    refine ⟨?_, hl, .inr ⟨_, _, hd.1, by simp; omega⟩⟩
    have each : ∀ i, i < len0 → ∃ it : It, V0 i = .int .u8 (it.k.toNat : Int) ∧ V1 i = .slice it.a it.body.length it.c ∧ At W it.a it.body := by
      intro i hi
      obtain ⟨_, _, h2, h3⟩ := hx i (by omega)
      obtain ⟨k, hk⟩ := byte_cell h2
      obtain ⟨a, len, cap, l, hv, hll, hat⟩ := bytes_cell h3
      exact ⟨⟨k, l, a, cap⟩, hk, by rw [hv, ← hll], hat⟩
    haveI : Inhabited It := ⟨⟨0, [], none, 0⟩⟩
    obtain ⟨f, hfp⟩ := Deep.choose_lt each
    refine ⟨(List.range len0).map f, by simp, ⟨fun hne => ?_, fun i hi => ?_⟩⟩
    · have hpos : 0 < len0 := by
        rcases Nat.eq_zero_or_pos len0 with h | h
        · exact absurd (by simp [h]) hne
        · exact h
      obtain ⟨b, o, spot⟩ := x
      have hc0 := (hx 0 (by omega)).1
      have hspot : spot = none := by simpa [Addr.add] using World.cell?_spot hc0
      subst hspot
      refine ⟨b, o, rfl, fun j hj => ?_⟩
      have hj' : j < len0 := by simpa using hj
      obtain ⟨h1, h2, _, _⟩ := hx j (by omega)
      have hplain : ∀ q, (⟨b, o, none⟩ : Addr).add q = ⟨b, o + q, none⟩ := fun q => by unfold Addr.add; split <;> simp_all
      rw [hplain] at h1 h2
      obtain ⟨g1, g2, _⟩ := hfp j hj'
      simp only [List.getElem_map, List.getElem_range]
      rw [← g1, ← g2]
      exact ⟨h1, by rw [Nat.add_assoc]; exact h2⟩
    · obtain ⟨j, hj, rfl⟩ := List.mem_map.1 hi
      exact (hfp j (List.mem_range.1 hj)).2.2

theorem bytes27 : Try.prog.bytesOf 27 = 32 := by kernel_rfl

theorem reach_frames {H : Type} {ts : List TypeId} {ds : List (DataW H)} (hsz : (DataW.weightsEach Try.prog ts ds).all (· ≤ reachBytes) = true) {j : Nat} {d0 : DataW H} {cap0 : Nat} (ht : ts[j]? = some 30) (hd : ds[j]? = some d0)
    (h : (d0 = .nil ∧ cap0 = 0) ∨ ∃ elems spare, d0 = .slice elems spare ∧ elems.length + spare.length = cap0) : cap0 ≤ 140737488351232 := by
  rcases h with ⟨_, rfl⟩ | ⟨elems, spare, rfl, rfl⟩
  · omega
  · have := sized_slice hsz (j := j) (t := 30) (e := 27) ht hd Try.underlying30
    rw [bytes27] at this
    have h2 : reachBytes = 140737488351232 := rfl
    omega

end Go.Proofs.Ytdhafnmahpafaaa
