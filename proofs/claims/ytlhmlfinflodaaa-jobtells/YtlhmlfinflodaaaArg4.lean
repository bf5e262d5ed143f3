/- What a job is, and a turn, and a list of turns. -/
import Derived.Test.YtlhmlfinflodaaaArg
import Derived.Test.YtlhmlfinflodaaaJy
namespace Go.Proofs.Ytlhmlfinflodaaa
open Go.ChangeShapes Go.WideShapes Go.ChangeAt Go.RowKit
set_option linter.unusedVariables false
section
variable {H : Type} (enc : TypeId × Value → H) (W : World) (base : Nat)

theorem is_u32 {t : TypeId} (hu : Try.prog.underlying t = some (.int .u32)) : Is enc W base t (fun cs => ∃ x : Nat, cs = [.int .u32 (x : Int)] ∧ x < 4294967296) := fun n cs y h _ => by
  obtain ⟨m, hm, _, hw⟩ := DataW.trod_int hu h
  have e0 : IntKind.u32.min = 0 := by decide
  have e1 : IntKind.u32.max = 4294967295 := by decide
  simp only [Lit.wf, e0, e1, Bool.and_eq_true, decide_eq_true_eq] at hw
  exact ⟨m.toNat, by rw [hm, Int.toNat_of_nonneg hw.1], by omega⟩

theorem c31 : Try.prog.cellsOf 31 = 4 := by kernel_rfl
theorem is_turn : Is enc W base 31 (fun cs => ∃ t : Tn, cs = tc t ∧ 0 ≤ t.on ∧ t.on < 4294967296) := by
  refine is_struct enc W base Try.underlying31 _ fun cs hl h => ?_
  obtain ⟨a, b, c, d, rfl⟩ := len4 (by rw [hl]; exact c31)
  have h0 := h 0 _ rfl _ (is_u32 enc W base (t := 27) Try.underlying27)
  have h1 := h 1 _ rfl _ (is_int enc W base (t := 25) Try.underlying25)
  have h2 := h 2 _ rfl _ (is_int enc W base (t := 3) Try.underlying3)
  have h3 := h 3 _ rfl _ (is_int enc W base (t := 2) Try.underlying2)
  simp [c2, c3, c49, c51] at h0 h1 h2 h3
  obtain ⟨x, rfl, hx⟩ := h0
  obtain ⟨y, rfl⟩ := h1
  obtain ⟨z, rfl⟩ := h2
  obtain ⟨u, rfl⟩ := h3
  exact ⟨⟨(x : Int), y, z, u⟩, rfl, by dsimp only; omega, by dsimp only; omega⟩

theorem is_job2 : Is enc W base 29 (fun cs => ∃ x : Job × List Dp, cs = jc x.1 ∧ x.2.length = x.1.s.dn ∧ DAt W x.1.s.da x.2 ∧ x.1.s.dn * 16 ≤ 140737488355328 ∧ 0 ≤ x.1.on ∧ x.1.on < 4294967296) := by
  intro n cs y hy hok
  obtain ⟨⟨J, D⟩, hc, h1, h2, h3⟩ := is_job enc W base n cs y hy hok
  refine ⟨(J, D), hc, h1, h2, h3, ?_⟩
  dsimp only at hc
  have k : Is enc W base 29 (fun cs => ∀ v, cs[15]? = some v → ∃ x : Nat, v = .int .u32 (x : Int) ∧ x < 4294967296) := by
    refine is_struct enc W base Try.underlying29 _ fun cs hl h => ?_
    obtain ⟨a0, a1, a2, a3, a4, a5, a6, a7, a8, a9, a10, a11, a12, a13, a14, a15, a16, rfl⟩ := len17 (by rw [hl]; exact c53)
    have h8 := h 8 _ rfl _ (is_u32 enc W base (t := 27) Try.underlying27)
    simp [c51] at h8
    intro v hv
    simp at hv
    subst hv
    exact h8
  obtain ⟨x, hx, hx2⟩ := k n cs y hy hok (.int .u32 J.on) (by rw [hc]; rfl)
  simp only [Value.int.injEq, true_and] at hx
  dsimp only
  omega

set_option maxRecDepth 100000 in
theorem job_arg {base2 : Nat} {V : Value} {d0 : DataW H} {p0 : List MemPlace} (hv : Value.okWide Try.prog W .any base2 29 V) (h0 : DataW.Trod enc Try.prog W base (fun _ => true) true 29 V d0 p0) (hok : OkW 29 d0) :
    ∃ (j : Job) (D : List Dp), V = .agg (jc j).toArray ∧ D.length = j.s.dn ∧ DAt W j.s.da D ∧ j.s.dn * 16 ≤ 140737488355328 ∧ 0 ≤ j.on ∧ j.on < 4294967296 := by
  obtain ⟨cs, rfl, _⟩ := okWide_struct Try.underlying29 hv
  obtain ⟨fuel, hf⟩ := h0
  obtain ⟨⟨j, D⟩, he, h1⟩ := is_job2 enc W base fuel _ (d0, p0) hf hok
  obtain ⟨l⟩ := cs
  simp only [Value.cells] at he
  subst he
  exact ⟨j, D, rfl, h1⟩

theorem turn_arg {base2 : Nat} {V : Value} {d0 : DataW H} {p0 : List MemPlace} (hv : Value.okWide Try.prog W .any base2 31 V) (h0 : DataW.Trod enc Try.prog W base (fun _ => true) true 31 V d0 p0) (hok : OkW 31 d0) :
    ∃ t : Tn, V = .agg (tc t).toArray ∧ 0 ≤ t.on ∧ t.on < 4294967296 := by
  obtain ⟨cs, rfl, _⟩ := okWide_struct Try.underlying31 hv
  obtain ⟨fuel, hf⟩ := h0
  obtain ⟨t, he, h1⟩ := is_turn enc W base fuel _ (d0, p0) hf hok
  obtain ⟨l⟩ := cs
  simp only [Value.cells] at he
  subst he
  exact ⟨t, rfl, h1⟩

def TnAt (w : World) (a : Option Addr) (L : List Tn) : Prop := CAt w a (L.flatMap tc)
theorem turns_arg {a0 : Option Addr} {len0 cap0 : Nat} {d0 : DataW H} {p0 : List MemPlace} (h0 : DataW.Trod enc Try.prog W base (fun _ => true) true 50 (.slice a0 len0 cap0) d0 p0) (hok : OkW 50 d0) :
    ∃ M : List Tn, M.length = len0 ∧ TnAt W a0 M ∧ len0 * 24 ≤ 140737488351232 ∧ ∀ t ∈ M, 0 ≤ t.on ∧ t.on < 4294967296 := by
  obtain ⟨fuel, hf⟩ := h0
  haveI : Inhabited Tn := ⟨⟨0, 0, 0, 0⟩⟩
  obtain ⟨a, len, cap, M, he, h1, h2, h3, h4, h5⟩ := is_slice enc W base (ts := 50) (te := 31) tc 4 24 _ Try.underlying50 c31 (by kernel_rfl) tc_len (by omega) (is_turn enc W base) fuel _ (d0, p0) hf hok
  simp [Value.cells] at he
  obtain ⟨rfl, rfl, rfl⟩ := he
  exact ⟨M, h1, h2, by omega, h5⟩
end
end Go.Proofs.Ytlhmlfinflodaaa
