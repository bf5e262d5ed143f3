/- What an api.Frame and a [][]byte among the arguments are, and that their lengths are within the bulk. -/
import Derived.Test.YtdhafnmahpafaaaArgFrames
import Derived.Test.YtdhafnmahpafaaaTellsWalk
import Derived.Lib.SmallJoins
namespace Go.Proofs.Ytdhafnmahpafaaa
open Go.ChangeShapes Go.WideShapes Go.ChangeAt Go.RowKit

theorem bulk_pos {H : Type} (d : DataW H) : 1 ≤ Rows.uptoBulk d := by
  cases d with
  | lit l => cases l <;> simp [Rows.uptoBulk]
  | _ => simp [Rows.uptoBulk]

theorem bulk_len {H : Type} (l : List (DataW H)) : l.length ≤ Rows.uptoBulkAll l := by
  induction l with
  | nil => simp
  | cons d r ih =>
    have := bulk_pos d
    simp only [Rows.uptoBulkAll, List.length_cons]
    omega

theorem bulk_mem {H : Type} {d : DataW H} {l : List (DataW H)} (h : d ∈ l) : Rows.uptoBulk d ≤ Rows.uptoBulkAll l := by
  induction l with
  | nil => cases h
  | cons x r ih =>
    simp only [Rows.uptoBulkAll]
    rcases List.mem_cons.1 h with rfl | h
    · omega
    · have := ih h; omega

theorem bytes_bulk {H : Type} {enc : TypeId × Value → H} {W : World} {base n : Nat} {V : Value} {y : DataW H × List MemPlace}
    (h : DataW.trod enc Try.prog W base (fun _ => true) true n 22 [V] = some y) : ∃ a cap, ∃ l : List UInt8, V = .slice a l.length cap ∧ At W a l ∧ l.length ≤ Rows.uptoBulk y.1 := by
  obtain ⟨a, len, cap, l, rfl, hl, _⟩ := bytes_cell h
  have hT : DataW.Trod enc Try.prog W base (fun _ => true) true 22 (.slice a len cap) y.1 y.2 := ⟨n, h⟩
  obtain ⟨l, hl, hat, hlc, hd⟩ := bytes_arg hT
  refine ⟨a, cap, l, by rw [hl], hat, ?_⟩
  rcases hd with ⟨_, rfl⟩ | ⟨elems, spare, he, hec⟩
  · omega
  · rw [he]
    have h1 := bulk_len elems
    have h2 := bulk_len spare
    simp only [Rows.uptoBulk]
    omega

theorem pieces_arg {H : Type} {enc : TypeId × Value → H} {W : World} {base : Nat} {a0 : Option Addr} {len0 cap0 : Nat} {d0 : DataW H} {p0 : List MemPlace}
    (h0 : DataW.Trod enc Try.prog W base (fun _ => true) true 34 (.slice a0 len0 cap0) d0 p0) : ∃ ps : List It, ps.length = len0 ∧ PAt W a0 ps ∧ len0 ≤ Rows.uptoBulk d0 ∧ ∀ i ∈ ps, i.body.length ≤ Rows.uptoBulk d0 := by
  obtain ⟨fuel, hf⟩ := h0
  rcases Deep.open_slice1 Try.underlying34 (by kernel_rfl) hf with ⟨hcs, _⟩ | ⟨x, len, cap, m, n, V, D, Pl, hcs, _, hl, hm, hmm, hd, hx⟩
  · simp [Value.cells] at hcs
    obtain ⟨rfl, rfl, rfl⟩ := hcs
    exact ⟨[], rfl, ⟨fun h => absurd rfl h, by simp⟩, Nat.zero_le _, by simp⟩
  · simp [Value.cells] at hcs
    obtain ⟨rfl, rfl, rfl⟩ := hcs
    have hmc : m = cap0 := by rw [hmm]; rfl
    simp only [Prod.mk.injEq] at hd
    have each : ∀ i, i < len0 → ∃ it : It, V i = .slice it.a it.body.length it.c ∧ At W it.a it.body ∧ it.body.length ≤ Rows.uptoBulk (D i) := by
      intro i hi
      obtain ⟨_, h3⟩ := hx i (by omega)
      obtain ⟨a, cap, l, hv, hat, hb⟩ := bytes_bulk h3
      exact ⟨⟨0, l, a, cap⟩, hv, hat, hb⟩
    haveI : Inhabited It := ⟨⟨0, [], none, 0⟩⟩
    obtain ⟨f, hfp⟩ := Deep.choose_lt each
    have hbk : ∀ i, i < len0 → Rows.uptoBulk (D i) ≤ Rows.uptoBulk d0 := by
      intro i hi
      rw [hd.1]
      have := bulk_mem (l := (List.range len0).map D) (List.mem_map.2 ⟨i, List.mem_range.2 hi, rfl⟩)
      simp only [Rows.uptoBulk]
      omega
    have hlb : len0 ≤ Rows.uptoBulk d0 := by
      rw [hd.1]
      have := bulk_len ((List.range len0).map D)
      simp only [List.length_map, List.length_range] at this
      simp only [Rows.uptoBulk]
      omega
    refine ⟨(List.range len0).map f, by simp, ⟨fun hne => ?_, fun i hi => ?_⟩, hlb, fun i hi => ?_⟩
    · have hpos : 0 < len0 := by
        rcases Nat.eq_zero_or_pos len0 with h | h
        · exact absurd (by simp [h]) hne
        · exact h
      obtain ⟨b, o, spot⟩ := x
      have hc0 := (hx 0 (by omega)).1
      have hspot : spot = none := by simpa [Addr.add] using World.cell?_spot hc0
      subst hspot
      refine ⟨b, o, rfl, fun j hj => ?_⟩
      have hj' : j < len0 := by simpa using hj
      obtain ⟨h1, _⟩ := hx j (by omega)
      have hplain : ∀ q, (⟨b, o, none⟩ : Addr).add q = ⟨b, o + q, none⟩ := fun q => by unfold Addr.add; split <;> simp_all
      rw [hplain] at h1
      simp only [List.getElem_map, List.getElem_range]
      rw [← (hfp j hj').1]
      exact h1
    · obtain ⟨j, hj, rfl⟩ := List.mem_map.1 hi
      exact (hfp j (List.mem_range.1 hj)).2.1
    · obtain ⟨j, hj, rfl⟩ := List.mem_map.1 hi
      exact Nat.le_trans (hfp j (List.mem_range.1 hj)).2.2 (hbk j (List.mem_range.1 hj))

end Go.Proofs.Ytdhafnmahpafaaa
