/- What an api.Asker among the arguments is. -/
import Derived.Test.YthjggjjocfbjcaaArgC
namespace Go.Proofs.Ythjggjjocfbjcaa
open Go.ChangeShapes Go.WideShapes Go.ChangeAt Go.RowKit

theorem struct41 : ∃ f0 f1 f2 f3 : Field, Try.prog.underlying 41 = some (.struct #[f0, f1, f2, f3]) ∧ f0.offset = 0 ∧ f1.offset = 1 ∧ f2.offset = 2 ∧ f3.offset = 3 ∧ f0.type = 3 ∧ f1.type = 3 ∧ f2.type = 3 ∧ f3.type = 39 :=
  ⟨_, _, _, _, Try.underlying41, rfl, rfl, rfl, rfl, rfl, rfl, rfl, rfl⟩

theorem len4 {α : Type} : ∀ {l : List α}, l.length = 4 → ∃ a b c d, l = [a, b, c, d]
  | [a, b, c, d], _ => ⟨a, b, c, d, rfl⟩

set_option maxRecDepth 100000 in
theorem asker_arg {H : Type} {enc : TypeId × Value → H} {W : World} {base base2 : Nat} {V : Value} {d0 : DataW H} {p0 : List MemPlace} (hv : Value.okWide Try.prog W .any base2 41 V)
    (h0 : DataW.Trod enc Try.prog W base (fun _ => true) true 41 V d0 p0) (hw : ∀ k ∈ d0.weights Try.prog 41, k ≤ reachBytes) :
    ∃ (ai an ak : Int) (aa : Option Addr) (ac : Nat) (aw : List KV), V = .agg #[.int .i64 ai, .int .i64 an, .int .i64 ak, .slice aa aw.length ac] ∧ KAt W 0 aa aw ∧ aw.length * 32 ≤ SMALL ∧ (Lit.int .i64 ai).wf = true ∧ (Lit.int .i64 an).wf = true ∧ (Lit.int .i64 ak).wf = true ∧ ∀ k ∈ aw, (Lit.int .i64 k.num).wf = true := by
  obtain ⟨f0, f1, f2, f3, he, o0, o1, o2, o3, t0, t1, t2, t3⟩ := struct41
  have c3 : Try.prog.cellsOf 3 = 1 := by kernel_rfl
  have c39 : Try.prog.cellsOf 39 = 1 := by kernel_rfl
  have c41 : Try.prog.cellsOf 41 = 4 := by kernel_rfl
  obtain ⟨cs, rfl, hsz⟩ := okWide_struct he hv
  rw [c41] at hsz
  obtain ⟨fuel, hf⟩ := h0
  obtain ⟨xs, k, hk, hxy, _, hxl, hfs⟩ := DataW.trod_struct he hf
  obtain ⟨y0, y1, y2, y3, rfl⟩ := len4 (l := xs) (by simpa using hxl)
  obtain ⟨l⟩ := cs
  obtain ⟨v0, v1, v2, v3, rfl⟩ := len4 (l := l) (by simpa using hsz)
  have g0 := hfs 0 f0 rfl
  have g1 := hfs 1 f1 rfl
  have g2 := hfs 2 f2 rfl
  have g3 := hfs 3 f3 rfl
  simp [o0, o1, o2, o3, t0, t1, t2, t3, c3, c39, Value.cells] at g0 g1 g2 g3
  obtain ⟨k0, rfl, hw0⟩ := int_cell g0
  obtain ⟨k1, rfl, hw1⟩ := int_cell g1
  obtain ⟨k2, rfl, hw2⟩ := int_cell g2
  simp only [Prod.mk.injEq] at hxy
  obtain ⟨a2, c2, ks, rfl, hka, hsm, hwk⟩ := kept_cell 39 69 Try.underlying39 struct69 (by kernel_rfl) (by kernel_rfl) g3 (fun k hk => hw k (by
    rw [hxy.1]
    simp [DataW.weights, he, DataW.weightsEach, t0, t1, t2, t3, hk]))
  exact ⟨k0, k1, k2, a2, c2, ks, rfl, hka, hsm, hw0, hw1, hw2, hwk⟩

end Go.Proofs.Ythjggjjocfbjcaa
