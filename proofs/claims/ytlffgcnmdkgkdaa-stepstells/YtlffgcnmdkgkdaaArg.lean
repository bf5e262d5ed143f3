/- What a []api.Cut and a Span among the arguments are. -/
import Derived.Test.YtlffgcnmdkgkdaaAwake
import Derived.WalkKit
import Derived.ProofKit
import Derived.OpenShut
import Derived.ShutString
import Derived.ChangeOld
import Derived.Below
import Derived.SizedLaws
import Derived.Deep.SlicePairs
namespace Go.Proofs.Ytlffgcnmdkgkdaa
open Go.ChangeShapes Go.WideShapes Go.ChangeAt Go.RowKit

theorem int_cell3 {H : Type} {enc : TypeId × Value → H} {W : World} {base n : Nat} {V : Value} {y : DataW H × List MemPlace}
    (h : DataW.trod enc Try.prog W base (fun _ => true) true n 3 [V] = some y) : ∃ k : Int, V = .int .i64 k ∧ (Lit.int .i64 k).wf = true := by
  obtain ⟨m, hm, _, hw⟩ := DataW.trod_int Try.underlying3 h
  exact ⟨m, by simpa using hm, hw⟩

theorem int_cell2 {H : Type} {enc : TypeId × Value → H} {W : World} {base n : Nat} {V : Value} {y : DataW H × List MemPlace}
    (h : DataW.trod enc Try.prog W base (fun _ => true) true n 2 [V] = some y) : ∃ k : Int, V = .int .i64 k ∧ (Lit.int .i64 k).wf = true := by
  obtain ⟨m, hm, _, hw⟩ := DataW.trod_int Try.underlying2 h
  exact ⟨m, by simpa using hm, hw⟩

theorem cuts_arg {H : Type} {enc : TypeId × Value → H} {W : World} {base : Nat} {a0 : Option Addr} {len0 cap0 : Nat} {d0 : DataW H} {p0 : List MemPlace}
    (h0 : DataW.Trod enc Try.prog W base (fun _ => true) true 22 (.slice a0 len0 cap0) d0 p0) : ∃ C : List Cut, C.length = len0 ∧ SAt W a0 C ∧ len0 ≤ cap0 ∧ ((d0 = .nil ∧ cap0 = 0) ∨ ∃ elems spare, d0 = .slice elems spare ∧ elems.length + spare.length = cap0) := by
  obtain ⟨fuel, hf⟩ := h0
  rcases Deep.open_slice_pairs Try.underlying22 Try.underlying36 (by kernel_rfl) rfl rfl (by kernel_rfl) (by kernel_rfl) hf with ⟨hcs, hd⟩ | ⟨x, len, cap, m, n, V0, V1, D0, D1, P0, P1, hcs, _, hl, hm, hmm, hd, hx⟩
  · simp [Value.cells] at hcs
    obtain ⟨rfl, rfl, rfl⟩ := hcs
    simp only [Prod.mk.injEq] at hd
    exact ⟨[], rfl, SAt.nil _ _, Nat.zero_le _, .inl ⟨hd.1, rfl⟩⟩
  · simp [Value.cells] at hcs
    obtain ⟨rfl, rfl, rfl⟩ := hcs
    have hmc : m = cap0 := by rw [hmm]; rfl
    simp only [Prod.mk.injEq] at hd
    have each : ∀ i, i < len0 → ∃ q : Cut, V0 i = .int .i64 q.1 ∧ V1 i = .int .i64 q.2 := by
      intro i hi
      obtain ⟨_, _, h2, h3⟩ := hx i (by omega)
      obtain ⟨k, hk, _⟩ := int_cell2 h2
      obtain ⟨j, hj, _⟩ := int_cell3 h3
      exact ⟨(k, j), hk, hj⟩
    haveI : Inhabited Cut := ⟨(0, 0)⟩
    obtain ⟨f, hfp⟩ := Deep.choose_lt each
    refine ⟨(List.range len0).map f, by simp, ?_, hl, .inr ⟨_, _, hd.1, by simp; omega⟩⟩
    intro hne
    have hpos : 0 < len0 := by
      rcases Nat.eq_zero_or_pos len0 with h | h
      · exact absurd (by simp [h]) hne
      · exact h
    obtain ⟨b, o, spot⟩ := x
    have hc0 := (hx 0 (by omega)).1
    have hspot : spot = none := by simpa [Addr.add] using World.cell?_spot hc0
    subst hspot
    refine ⟨b, o, rfl, fun j hj => ?_⟩
    have hlen : ((List.range len0).map f).length = len0 := by simp
    have hj' : j < len0 * 2 := by rw [cc_len, hlen] at hj; exact hj
    have hplain : ∀ q, (⟨b, o, none⟩ : Addr).add q = ⟨b, o + q, none⟩ := fun q => by unfold Addr.add; split <;> simp_all
    obtain ⟨h1, h2, _, _⟩ := hx (j / 2) (by omega)
    rw [hplain] at h1 h2
    obtain ⟨g1, g2⟩ := hfp (j / 2) (by omega)
    have hjd : j / 2 < ((List.range len0).map f).length := by rw [hlen]; omega
    have hg := cc_get ((List.range len0).map f) (j / 2) (j % 2) hjd (by omega)
    have e : j / 2 * 2 + j % 2 = j := by omega
    rw [e, List.getElem?_eq_getElem hj] at hg
    have ef : ((List.range len0).map f)[j / 2] = f (j / 2) := by simp
    rw [ef] at hg
    rcases Nat.mod_two_eq_zero_or_one j with hz | hz
    · rw [hz] at hg e
      have hv : (((List.range len0).map f).flatMap cc)[j] = .int .i64 (f (j / 2)).1 := by simpa [cc] using hg
      rw [hv, ← g1, ← h1]
      congr 2
      omega
    · rw [hz] at hg e
      have hv : (((List.range len0).map f).flatMap cc)[j] = .int .i64 (f (j / 2)).2 := by simpa [cc] using hg
      rw [hv, ← g2, ← h2]
      congr 2
      omega

theorem bytes36 : Try.prog.bytesOf 36 = 16 := by kernel_rfl

theorem reach_cuts {H : Type} {ts : List TypeId} {ds : List (DataW H)} (hsz : (DataW.weightsEach Try.prog ts ds).all (· ≤ reachBytes) = true) {j : Nat} {d0 : DataW H} {cap0 : Nat} (ht : ts[j]? = some 22) (hd : ds[j]? = some d0)
    (h : (d0 = .nil ∧ cap0 = 0) ∨ ∃ elems spare, d0 = .slice elems spare ∧ elems.length + spare.length = cap0) : cap0 * 16 ≤ 140737488351232 := by
  rcases h with ⟨_, rfl⟩ | ⟨elems, spare, rfl, rfl⟩
  · omega
  · have := sized_slice hsz (j := j) (t := 22) (e := 36) ht hd Try.underlying22
    rw [bytes36] at this
    have h2 : reachBytes = 140737488351232 := rfl
    omega

theorem struct24 : ∃ f0 f1 f2 : Field, Try.prog.underlying 24 = some (.struct #[f0, f1, f2]) ∧ f0.offset = 0 ∧ f1.offset = 1 ∧ f2.offset = 2 ∧ f0.type = 2 ∧ f1.type = 2 ∧ f2.type = 3 :=
  ⟨_, _, _, Try.underlying24, rfl, rfl, rfl, rfl, rfl, rfl⟩

theorem len3 {α : Type} : ∀ {l : List α}, l.length = 3 → ∃ a b c, l = [a, b, c]
  | [a, b, c], _ => ⟨a, b, c, rfl⟩

set_option maxRecDepth 100000 in
theorem span_arg {H : Type} {enc : TypeId × Value → H} {W : World} {base base2 : Nat} {V : Value} {d0 : DataW H} {p0 : List MemPlace} (hv : Value.okWide Try.prog W .any base2 24 V)
    (h0 : DataW.Trod enc Try.prog W base (fun _ => true) true 24 V d0 p0) :
    ∃ a b n : Int, V = .agg #[.int .i64 a, .int .i64 b, .int .i64 n] ∧ (Lit.int .i64 a).wf = true ∧ (Lit.int .i64 b).wf = true ∧ (Lit.int .i64 n).wf = true := by
  obtain ⟨f0, f1, f2, he, o0, o1, o2, t0, t1, t2⟩ := struct24
  have c3 : Try.prog.cellsOf 3 = 1 := by kernel_rfl
  have c2 : Try.prog.cellsOf 2 = 1 := by kernel_rfl
  have c24 : Try.prog.cellsOf 24 = 3 := by kernel_rfl
  obtain ⟨cs, rfl, hsz⟩ := okWide_struct he hv
  rw [c24] at hsz
  obtain ⟨fuel, hf⟩ := h0
  obtain ⟨xs, k, hk, hxy, _, hxl, hfs⟩ := DataW.trod_struct he hf
  obtain ⟨y0, y1, y2, rfl⟩ := len3 (l := xs) (by simpa using hxl)
  obtain ⟨l⟩ := cs
  obtain ⟨v0, v1, v2, rfl⟩ := len3 (l := l) (by simpa using hsz)
  have g0 := hfs 0 f0 rfl
  have g1 := hfs 1 f1 rfl
  have g2 := hfs 2 f2 rfl
  simp [o0, o1, o2, t0, t1, t2, c3, c2, Value.cells] at g0 g1 g2
  obtain ⟨k0, rfl, hw0⟩ := int_cell2 g0
  obtain ⟨k1, rfl, hw1⟩ := int_cell2 g1
  obtain ⟨k2, rfl, hw2⟩ := int_cell3 g2
  exact ⟨k0, k1, k2, rfl, hw0, hw1, hw2⟩

end Go.Proofs.Ytlffgcnmdkgkdaa
