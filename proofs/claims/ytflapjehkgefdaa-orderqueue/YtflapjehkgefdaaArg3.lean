/- What arguments are: configs, jobs whose ids are numbers. -/
import Derived.Test.YtflapjehkgefdaaPe
import Derived.Test.YtflapjehkgefdaaArg
namespace Go.Proofs.Ytflapjehkgefdaa
open Go.ChangeShapes Go.WideShapes Go.ChangeAt Go.RowKit
set_option linter.unusedVariables false
section
variable {H : Type} (enc : TypeId × Value → H) (W : World) (base : Nat)
theorem is_i64 {t : TypeId} (hu : Try.prog.underlying t = some (.int .i64)) : Is enc W base t (fun cs => ∃ x : Int, cs = [.int .i64 x] ∧ (Lit.int .i64 x).wf = true) := fun n cs y h _ => by
  obtain ⟨m, hm, _, hw⟩ := DataW.trod_int hu h
  exact ⟨m, hm, hw⟩
theorem is_job3 : Is enc W base 40 (fun cs => ∃ x : Job × List Dp, cs = jc x.1 ∧ x.2.length = x.1.s.dn ∧ DAt W x.1.s.da x.2 ∧ x.1.s.dn * 16 ≤ 140737488355328 ∧ (Lit.int .i64 x.1.id).wf = true) := by
  refine is_struct enc W base Try.underlying40 _ fun cs hl h => ?_
  obtain ⟨a0, a1, a2, a3, a4, a5, a6, a7, a8, a9, a10, a11, a12, a13, a14, a15, a16, rfl⟩ := len17 (by rw [hl]; exact c53)
  have h0 := h 0 _ rfl _ (is_i64 enc W base (t := 3) Try.underlying3)
  have h1 := h 1 _ rfl _ (is_int enc W base (t := 3) Try.underlying3)
  have h2 := h 2 _ rfl _ (is_int enc W base (t := 3) Try.underlying3)
  have h3 := h 3 _ rfl _ (is_spec enc W base)
  have h4 := h 4 _ rfl _ (is_int enc W base (t := 36) Try.underlying36)
  have h5 := h 5 _ rfl _ (is_int enc W base (t := 2) Try.underlying2)
  have h6 := h 6 _ rfl _ (is_int enc W base (t := 2) Try.underlying2)
  have h7 := h 7 _ rfl _ (is_int enc W base (t := 2) Try.underlying2)
  have h8 := h 8 _ rfl _ (is_int enc W base (t := 38) Try.underlying38)
  have h9 := h 9 _ rfl _ (is_int enc W base (t := 3) Try.underlying3)
  simp [c2, c3, c49, c51] at h1 h2 h4 h5 h6 h7 h8 h9
  simp [c3] at h0
  simp [c32, -Prod.exists] at h3
  obtain ⟨x0, rfl, hw0⟩ := h0
  obtain ⟨x1, rfl⟩ := h1
  obtain ⟨x2, rfl⟩ := h2
  obtain ⟨⟨s, D⟩, hs, hD⟩ := h3
  dsimp only at hs hD
  obtain ⟨x4, rfl⟩ := h4
  obtain ⟨x5, rfl⟩ := h5
  obtain ⟨x6, rfl⟩ := h6
  obtain ⟨x7, rfl⟩ := h7
  obtain ⟨x8, rfl⟩ := h8
  obtain ⟨x9, rfl⟩ := h9
  refine ⟨(⟨x0, x1, x2, s, x4, x5, x6, x7, x8, x9⟩, D), ?_, hD.1, hD.2.1, hD.2.2, by simpa using hw0⟩
  simp only [sc, List.cons.injEq, and_true] at hs
  obtain ⟨rfl, rfl, rfl, rfl, rfl, rfl, rfl, rfl⟩ := hs
  rfl
theorem jobs3_arg {a0 : Option Addr} {len0 cap0 : Nat} {d0 : DataW H} {p0 : List MemPlace} (h0 : DataW.Trod enc Try.prog W base (fun _ => true) true 29 (.slice a0 len0 cap0) d0 p0) (hok : OkW 29 d0) :
    ∃ M : List (Job × List Dp), M.length = len0 ∧ JAt W a0 (M.map (·.1)) ∧ len0 ≤ cap0 ∧ len0 * 184 ≤ 140737488351232 ∧ JIn W M ∧ ∀ p ∈ M, (Lit.int .i64 p.1.id).wf = true := by
  obtain ⟨fuel, hf⟩ := h0
  haveI : Inhabited Job := ⟨job0⟩
  obtain ⟨a, len, cap, M, he, h1, h2, h3, h4, h5⟩ := is_slice enc W base (ts := 29) (te := 40) (fun x : Job × List Dp => jc x.1) 17 184 _ Try.underlying29 c53 (by kernel_rfl) (fun _ => rfl) (by omega) (is_job3 enc W base) fuel _ (d0, p0) hf hok
  simp [Value.cells] at he
  obtain ⟨rfl, rfl, rfl⟩ := he
  refine ⟨M, h1, ?_, h3, by omega, fun p hp => ⟨(h5 p hp).1, (h5 p hp).2.1, (h5 p hp).2.2.1⟩, fun p hp => (h5 p hp).2.2.2⟩
  unfold JAt
  rw [← flat_fst]
  exact h2
end
theorem cfr_in {W : World} {ca pa aa qa : Option Addr} {cn cc pn pc ak az qk qc : Nat} {I : List Int} {M : List (Prt × List ByteArray)} {A : List Acc} {Q : List Qu} (h : CfgIn W ca pa aa qa cn cc pn pc ak az qk qc I M A Q) : CfR W ca pa aa qa cn pn ak az qk I M A Q :=
  ⟨h.il, h.iat, by have := h.ib; omega, h.ml, h.mat, by have := h.mb; omega, fun p hp => ⟨(h.min p hp).1, (h.min p hp).2.1, by have := (h.min p hp).2.2; omega⟩, h.set, h.al, h.aat, h.ale, by have := h.ab; omega, h.ql, h.qat, by have := h.qb; omega⟩
theorem wf_fst {M : List (Job × List Dp)} (h : ∀ p ∈ M, (Lit.int .i64 p.1.id).wf = true) : ∀ J ∈ M.map (·.1), (Lit.int .i64 J.id).wf = true := fun J hJ => by
  obtain ⟨p, hp, rfl⟩ := List.mem_map.1 hJ
  exact h p hp
end Go.Proofs.Ytflapjehkgefdaa
