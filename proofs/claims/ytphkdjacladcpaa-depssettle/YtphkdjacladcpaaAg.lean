/- Arguments: dependencies, jobs (their nodes within 32 bits), pairs of numbers. -/
import Derived.Test.YtphkdjacladcpaaArg
namespace Go.Proofs.Ytphkdjacladcpaa
open Go.ChangeShapes Go.WideShapes Go.ChangeAt Go.RowKit
set_option linter.unusedVariables false

def pr2 (x : Int × Int) : List Value := [.int .i64 x.1, .int .i64 x.2]
theorem pr2_len (x : Int × Int) : (pr2 x).length = 2 := rfl
def PAt (w : World) (a : Option Addr) (L : List (Int × Int)) : Prop := CAt w a (L.flatMap pr2)
theorem PAt.below {w w' : World} {a : Option Addr} {C : List (Int × Int)} (h : PAt w a C) (hb : Below w.heap.size w w') : PAt w' a C := CAt.below h hb
theorem PAt.place {w : World} {a : Option Addr} {C : List (Int × Int)} (h : PAt w a C) (h0 : 0 < C.length) : ∃ b o, a = some ⟨b, o, none⟩ := flat_place pr2 2 pr2_len (by omega) h h0
theorem PAt.one {w : World} {b o : Nat} {C : List (Int × Int)} (h : PAt w (some ⟨b, o, none⟩) C) {i : Nat} (hi : i < C.length) :
    ∃ x y, w.cell? ⟨b, o + i * 2, none⟩ = some (.int .i64 x) ∧ w.cell? ⟨b, o + i * 2 + 1, none⟩ = some (.int .i64 y) := by
  have k := fun r hr => flat_cell pr2 2 pr2_len (by omega) h hi r hr
  exact ⟨_, _, k 0 (by omega), k 1 (by omega)⟩

section
variable {H : Type} (enc : TypeId × Value → H) (W : World) (base : Nat)

theorem c35 : Try.prog.cellsOf 35 = 2 := by kernel_rfl
theorem is_pair : Is enc W base 35 (fun cs => ∃ x : Int × Int, cs = pr2 x ∧ True) := by
  intro n cs y hy hok
  obtain ⟨xs, m, _, _, hlen, hxl, hx⟩ := DataW.trod_array Try.underlying35 hy
  rw [c35] at hlen
  obtain ⟨a, b, rfl⟩ := len2 hlen
  have h0 := hx 0 (by decide)
  have h1 := hx 1 (by decide)
  rw [List.getElem?_eq_getElem (by omega)] at h0 h1
  simp [c3] at h0 h1
  obtain ⟨p, hp, _, _⟩ := DataW.trod_int Try.underlying3 h0
  obtain ⟨q, hq, _, _⟩ := DataW.trod_int Try.underlying3 h1
  simp only [List.cons.injEq, and_true] at hp hq
  exact ⟨(p, q), by rw [hp, hq]; rfl, trivial⟩

theorem pairs_arg {a0 : Option Addr} {len0 cap0 : Nat} {d0 : DataW H} {p0 : List MemPlace} (h0 : DataW.Trod enc Try.prog W base (fun _ => true) true 33 (.slice a0 len0 cap0) d0 p0) (hok : OkW 33 d0) :
    ∃ M : List (Int × Int), M.length = len0 ∧ PAt W a0 M ∧ len0 * 16 ≤ 140737488351232 := by
  obtain ⟨fuel, hf⟩ := h0
  obtain ⟨a, len, cap, M, he, h1, h2, h3, h4, h5⟩ := is_slice enc W base (ts := 33) (te := 35) pr2 2 16 (fun _ => True) Try.underlying33 c35 (by kernel_rfl) pr2_len (by omega) (is_pair enc W base) fuel _ (d0, p0) hf hok
  simp [Value.cells] at he
  obtain ⟨rfl, rfl, rfl⟩ := he
  exact ⟨M, h1, h2, by omega⟩

theorem deps_arg {a0 : Option Addr} {len0 cap0 : Nat} {d0 : DataW H} {p0 : List MemPlace} (h0 : DataW.Trod enc Try.prog W base (fun _ => true) true 22 (.slice a0 len0 cap0) d0 p0) (hok : OkW 22 d0) :
    ∃ M : List Dp, M.length = len0 ∧ DAt W a0 M ∧ len0 ≤ cap0 ∧ cap0 * 16 ≤ 140737488351232 := by
  obtain ⟨fuel, hf⟩ := h0
  obtain ⟨a, len, cap, M, he, h1, h2, h3, h4, h5⟩ := is_slice enc W base (ts := 22) (te := 51) dc2 2 16 (fun _ => True) Try.underlying22 c114 (by kernel_rfl) dc2_len (by omega) (is_dep enc W base) fuel _ (d0, p0) hf hok
  simp [Value.cells] at he
  obtain ⟨rfl, rfl, rfl⟩ := he
  exact ⟨M, h1, h2, h3, h4⟩

theorem is_u32 {t : TypeId} (hu : Try.prog.underlying t = some (.int .u32)) : Is enc W base t (fun cs => ∃ x : Nat, cs = [.int .u32 (x : Int)] ∧ x < 4294967296) := fun n cs y h _ => by
  obtain ⟨m, hm, _, hw⟩ := DataW.trod_int hu h
  have e0 : IntKind.u32.min = 0 := by decide
  have e1 : IntKind.u32.max = 4294967295 := by decide
  simp only [Lit.wf, e0, e1, Bool.and_eq_true, decide_eq_true_eq] at hw
  exact ⟨m.toNat, by rw [hm, Int.toNat_of_nonneg hw.1], by omega⟩

theorem is_job2 : Is enc W base 42 (fun cs => ∃ x : Job × List Dp, cs = jc x.1 ∧ x.2.length = x.1.s.dn ∧ DAt W x.1.s.da x.2 ∧ x.1.s.dn * 16 ≤ 140737488355328 ∧ 0 ≤ x.1.on ∧ x.1.on < 4294967296) := by
  intro n cs y hy hok
  obtain ⟨⟨J, D⟩, hc, h1, h2, h3⟩ := is_job enc W base n cs y hy hok
  refine ⟨(J, D), hc, h1, h2, h3, ?_⟩
  dsimp only at hc
  have k : Is enc W base 42 (fun cs => ∀ v, cs[15]? = some v → ∃ x : Nat, v = .int .u32 (x : Int) ∧ x < 4294967296) := by
    refine is_struct enc W base Try.underlying42 _ fun cs hl h => ?_
    obtain ⟨a0, a1, a2, a3, a4, a5, a6, a7, a8, a9, a10, a11, a12, a13, a14, a15, a16, rfl⟩ := len17 (by rw [hl]; exact c53)
    have h8 := h 8 _ rfl _ (is_u32 enc W base (t := 40) Try.underlying40)
    simp [c51] at h8
    intro v hv
    simp at hv
    subst hv
    exact h8
  obtain ⟨x, hx, hx2⟩ := k n cs y hy hok (.int .u32 J.on) (by rw [hc]; rfl)
  simp only [Value.int.injEq, true_and] at hx
  dsimp only
  omega

theorem jobs2_arg {a0 : Option Addr} {len0 cap0 : Nat} {d0 : DataW H} {p0 : List MemPlace} (h0 : DataW.Trod enc Try.prog W base (fun _ => true) true 23 (.slice a0 len0 cap0) d0 p0) (hok : OkW 23 d0) :
    ∃ M : List (Job × List Dp), M.length = len0 ∧ JAt W a0 (M.map (·.1)) ∧ len0 ≤ cap0 ∧ len0 * 184 ≤ 140737488351232 ∧ JIn W M ∧ ∀ p ∈ M, 0 ≤ p.1.on ∧ p.1.on < 4294967296 := by
  obtain ⟨fuel, hf⟩ := h0
  haveI : Inhabited Job := ⟨job0⟩
  obtain ⟨a, len, cap, M, he, h1, h2, h3, h4, h5⟩ := is_slice enc W base (ts := 23) (te := 42) (fun x : Job × List Dp => jc x.1) 17 184 _ Try.underlying23 c53 (by kernel_rfl) (fun _ => rfl) (by omega) (is_job2 enc W base) fuel _ (d0, p0) hf hok
  simp [Value.cells] at he
  obtain ⟨rfl, rfl, rfl⟩ := he
  refine ⟨M, h1, ?_, h3, by omega, fun p hp => ⟨(h5 p hp).1, (h5 p hp).2.1, (h5 p hp).2.2.1⟩, fun p hp => (h5 p hp).2.2.2⟩
  unfold JAt
  rw [← flat_fst]
  exact h2
end
end Go.Proofs.Ytphkdjacladcpaa
