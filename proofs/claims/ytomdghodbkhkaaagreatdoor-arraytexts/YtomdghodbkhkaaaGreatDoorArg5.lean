/- What the arguments are: numbers, and an id with a spec and a time; the library's table. -/
import Derived.Test.YtomdghodbkhkaaaGreatDoorArg
import Derived.Test.YtomdghodbkhkaaaGreatDoorTel
import Derived.LaidSub
import Derived.Lib.LaidTab
namespace Go.Proofs.YtomdghodbkhkaaaGreatDoor
open Go.ChangeShapes Go.WideShapes Go.ChangeAt Go.RowKit
set_option linter.unusedVariables false

section
variable {H : Type} (enc : TypeId × Value → H) (W : World) (base : Nat)
theorem is_i64 {t : TypeId} (hu : Tryz.prog.underlying t = some (.int .i64)) : Is enc W base t (fun cs => ∃ x : Int, cs = [.int .i64 x] ∧ x ≤ 9223372036854775807) := fun n cs y h _ => by
  obtain ⟨m, hm, _, hw⟩ := DataW.trod_int hu h
  have e0 : IntKind.i64.min = -9223372036854775808 := by decide
  have e1 : IntKind.i64.max = 9223372036854775807 := by decide
  simp only [Lit.wf, e0, e1, Bool.and_eq_true, decide_eq_true_eq] at hw
  exact ⟨m, hm, hw.2⟩
theorem ints2_arg {a0 : Option Addr} {len0 cap0 : Nat} {d0 : DataW H} {p0 : List MemPlace} (h0 : DataW.Trod enc Tryz.prog W base (fun _ => true) true 22 (.slice a0 len0 cap0) d0 p0) (hok : OkW 22 d0) :
    ∃ M : List Int, M.length = len0 ∧ IAt W a0 M ∧ len0 ≤ cap0 ∧ len0 * 8 ≤ 140737488351232 := by
  obtain ⟨fuel, hf⟩ := h0
  obtain ⟨a, len, cap, M, he, h1, h2, h3, h4, h5⟩ := is_slice enc W base (ts := 22) (te := 3) ic 1 8 (fun _ => True) Tryz.underlying22 c3 (by kernel_rfl) ic_len (by omega) (is_num enc W base) fuel _ (d0, p0) hf hok
  simp [Value.cells] at he
  obtain ⟨rfl, rfl, rfl⟩ := he
  exact ⟨M, h1, h2, h3, by omega⟩
theorem len10 {α : Type} : ∀ {l : List α}, l.length = 10 → ∃ a b c d e f g h i j, l = [a, b, c, d, e, f, g, h, i, j]
  | [a, b, c, d, e, f, g, h, i, j], _ => ⟨a, b, c, d, e, f, g, h, i, j, rfl⟩
theorem c35 : Tryz.prog.cellsOf 36 = 10 := by kernel_rfl
/-- An id, a spec, a time. -/
def kc (id : Int) (s : Spc) (now : Int) : List Value := [.int .i64 id, .string s.user, .string s.acct, .string s.qos, .string s.part, .int .i64 s.nodes, .int .i64 s.cores, .int .i64 s.lim, .slice s.da s.dn s.dc, .int .i64 now]
theorem is_call : Is enc W base 36 (fun cs => ∃ (id : Int) (s : Spc) (now : Int) (D : List Dp), cs = kc id s now ∧ id ≤ 9223372036854775807 ∧ D.length = s.dn ∧ DAt W s.da D ∧ s.dn * 16 ≤ 140737488355328) := by
  refine is_struct enc W base Tryz.underlying36 _ fun cs hl h => ?_
  obtain ⟨a0, a1, a2, a3, a4, a5, a6, a7, a8, a9, rfl⟩ := len10 (by rw [hl]; exact c35)
  have h0 := h 0 _ rfl _ (is_i64 enc W base (t := 3) Tryz.underlying3)
  have h1 := h 1 _ rfl _ (is_spec enc W base)
  have h2 := h 2 _ rfl _ (is_int enc W base (t := 2) Tryz.underlying2)
  simp [c2, c3] at h0 h2
  simp [c32, -Prod.exists] at h1
  obtain ⟨x0, rfl, hx0⟩ := h0
  obtain ⟨⟨s, D⟩, hs, hD⟩ := h1
  dsimp only at hs hD
  obtain ⟨x2, rfl⟩ := h2
  refine ⟨x0, s, x2, D, ?_, hx0, hD⟩
  simp only [sc, List.cons.injEq, and_true] at hs
  obtain ⟨rfl, rfl, rfl, rfl, rfl, rfl, rfl, rfl⟩ := hs
  rfl
set_option maxRecDepth 100000 in
theorem call_arg {base2 : Nat} {V : Value} {d0 : DataW H} {p0 : List MemPlace} (hv : Value.okWide Tryz.prog W .any base2 36 V) (h0 : DataW.Trod enc Tryz.prog W base (fun _ => true) true 36 V d0 p0) (hok : OkW 36 d0) :
    ∃ (id : Int) (s : Spc) (now : Int) (D : List Dp), V = .agg (kc id s now).toArray ∧ id ≤ 9223372036854775807 ∧ D.length = s.dn ∧ DAt W s.da D ∧ s.dn * 16 ≤ 140737488355328 := by
  obtain ⟨cs, rfl, _⟩ := okWide_struct Tryz.underlying36 hv
  obtain ⟨fuel, hf⟩ := h0
  obtain ⟨id, s, now, D, he, h1⟩ := is_call enc W base fuel _ (d0, p0) hf hok
  obtain ⟨l⟩ := cs
  simp only [Value.cells] at he
  subst he
  exact ⟨id, s, now, D, rfl, h1⟩
end

theorem tb_of {W : World} {laid : List (String × DataW Unit)} (hL : laidMet Tryz.prog laid W) (hk : (laid.filter fun x => x.1 == "internal/strconv.uint64pow10") = [("internal/strconv.uint64pow10", Lib.tabData .u64 Lib.pow10Tab)]) : Tb W := by
  have h := hL.filter (fun x => x.1 == "internal/strconv.uint64pow10")
  rw [hk] at h
  exact Lib.tabIs_of_head tb_named (by kernel_rfl) Tryz.underlying146 Tryz.underlying112 (by kernel_rfl) (by kernel_rfl) h
end Go.Proofs.YtomdghodbkhkaaaGreatDoor
