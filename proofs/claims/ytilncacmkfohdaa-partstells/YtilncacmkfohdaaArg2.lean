/- What a config and a spec are, with what the document's functions ask besides. -/
import Derived.Test.YtilncacmkfohdaaArg
namespace Go.Proofs.Ytilncacmkfohdaa
open Go.ChangeShapes Go.WideShapes Go.ChangeAt Go.RowKit
section
variable {H : Type} (enc : TypeId × Value → H) (W : World) (base : Nat)

theorem is_part2 : Is enc W base 58 (fun cs => ∃ x : Prt × List ByteArray, cs = pc5 x.1 ∧ x.2.length = x.1.dn ∧ TAt W x.1.da x.2 ∧ x.1.dn * 16 ≤ 140737488355328 ∧ (∃ z : Nat, x.1.nodes = (z : Int) ∧ z < 4294967296) ∧ x.1.dn ≤ x.1.dc ∧ x.1.name.size ≤ 9223372036854775807) := by
  refine is_struct enc W base Try.underlying58 _ fun cs hl h => ?_
  obtain ⟨a, b, c, d, e, rfl⟩ := len5 (by rw [hl]; exact c90)
  haveI : Inhabited ByteArray := ⟨ByteArray.empty⟩
  have h0 := h 0 _ rfl _ (is_str enc W base (t := 9) Try.underlying9)
  have h1 := h 1 _ rfl _ (is_u32 enc W base (t := 56) Try.underlying56)
  have h2 := h 2 _ rfl _ (is_int enc W base (t := 3) Try.underlying3)
  have h3 := h 3 _ rfl _ (is_int enc W base (t := 2) Try.underlying2)
  have h4 := h 4 _ rfl _ (is_slice enc W base (ts := 32) (te := 9) (fun x => [Value.string x]) 1 16 (fun _ => True) Try.underlying32 c9 (by kernel_rfl) (fun _ => rfl) (by omega) (is_text enc W base))
  simp [c2, c3, c9, c51, c70] at h0 h1 h2 h3 h4
  obtain ⟨x, rfl, hx⟩ := h0
  obtain ⟨y, rfl, hy⟩ := h1
  obtain ⟨z, rfl⟩ := h2
  obtain ⟨u, rfl⟩ := h3
  obtain ⟨ta, tn, tc, rfl, B, hB, hat, hle, hby⟩ := h4
  refine ⟨(⟨x, (y : Int), z, u, ta, tn, tc⟩, B), rfl, hB, ?_, by dsimp only; omega, ⟨y, rfl, hy⟩, hle, hx⟩
  unfold TAt
  rw [← map_S]
  exact hat

theorem is_spec2 : Is enc W base 31 (fun cs => ∃ x : Spc × List Dp, cs = sc x.1 ∧ x.2.length = x.1.dn ∧ DAt W x.1.da x.2 ∧ x.1.dn * 16 ≤ 140737488355328 ∧ x.1.user.size ≤ 9223372036854775807) := by
  refine is_struct enc W base Try.underlying31 _ fun cs hl h => ?_
  obtain ⟨a, b, c, d, e, f, g, i, rfl⟩ := len8 (by rw [hl]; exact c32)
  have h0 := h 0 _ rfl _ (is_str enc W base (t := 9) Try.underlying9)
  have h1 := h 1 _ rfl _ (is_str enc W base (t := 9) Try.underlying9)
  have h2 := h 2 _ rfl _ (is_str enc W base (t := 9) Try.underlying9)
  have h3 := h 3 _ rfl _ (is_str enc W base (t := 9) Try.underlying9)
  have h4 := h 4 _ rfl _ (is_int enc W base (t := 3) Try.underlying3)
  have h5 := h 5 _ rfl _ (is_int enc W base (t := 3) Try.underlying3)
  have h6 := h 6 _ rfl _ (is_int enc W base (t := 2) Try.underlying2)
  have h7 := h 7 _ rfl _ (is_slice enc W base (ts := 29) (te := 142) dc2 2 16 (fun _ => True) Try.underlying29 c114 (by kernel_rfl) dc2_len (by omega) (is_dep enc W base))
  simp [c2, c3, c9, c30] at h0 h1 h2 h3 h4 h5 h6 h7
  obtain ⟨x0, rfl, hx⟩ := h0
  obtain ⟨x1, rfl, _⟩ := h1
  obtain ⟨x2, rfl, _⟩ := h2
  obtain ⟨x3, rfl, _⟩ := h3
  obtain ⟨x4, rfl⟩ := h4
  obtain ⟨x5, rfl⟩ := h5
  obtain ⟨x6, rfl⟩ := h6
  obtain ⟨ta, tn, tc, rfl, B, hB, hat, hle, hby⟩ := h7
  exact ⟨(⟨x0, x1, x2, x3, x4, x5, x6, ta, tn, tc⟩, B), rfl, hB, hat, by dsimp only; omega, hx⟩

theorem is_cfg2 : Is enc W base 28 (fun cs => ∃ (ca pa aa qa : Option Addr) (cn cc pn pc ak az qk qc : Nat) (pol : Int) (I : List Int) (M : List (Prt × List ByteArray)) (A : List Acc) (Q : List Qu),
    cs = [.slice ca cn cc, .slice pa pn pc, .slice aa ak az, .slice qa qk qc, .int .u8 pol] ∧ CfgIn W ca pa aa qa cn cc pn pc ak az qk qc I M A Q ∧ pn ≤ pc ∧ (∀ p ∈ M, p.1.dn ≤ p.1.dc) ∧ (∀ p ∈ M, p.1.name.size ≤ 9223372036854775807)) := by
  refine is_struct enc W base Try.underlying28 _ fun cs hl h => ?_
  obtain ⟨a, b, c, d, e, rfl⟩ := len5 (by rw [hl]; exact c28)
  haveI : Inhabited ByteArray := ⟨ByteArray.empty⟩
  haveI : Inhabited Prt := ⟨prt0⟩
  have h0 := h 0 _ rfl _ (is_slice enc W base (ts := 22) (te := 3) ic 1 8 (fun _ => True) Try.underlying22 c3 (by kernel_rfl) ic_len (by omega) (is_num enc W base))
  have h1 := h 1 _ rfl _ (is_slice enc W base (ts := 23) (te := 58) (fun x : Prt × List ByteArray => pc5 x.1) 5 64 _ Try.underlying23 c90 (by kernel_rfl) (fun _ => rfl) (by omega) (is_part2 enc W base))
  have h2 := h 2 _ rfl _ (is_slice enc W base (ts := 24) (te := 45) ac 3 40 _ Try.underlying24 c57 (by kernel_rfl) (fun _ => rfl) (by omega) (is_acc enc W base))
  have h3 := h 3 _ rfl _ (is_slice enc W base (ts := 25) (te := 89) qc 4 40 _ Try.underlying25 c59 (by kernel_rfl) qc_len (by omega) (is_qual enc W base))
  have h4 := h 4 _ rfl _ (is_int enc W base (t := 26) Try.underlying26)
  simp [c22, c23, c24, c25, c26, -Prod.forall, -Prod.exists] at h0 h1 h2 h3 h4
  obtain ⟨ca, cn, cc, rfl, I, i1, i2, i3, i4⟩ := h0
  obtain ⟨pa, pn, pc, rfl, M, m1, m2, m3, m4, m5⟩ := h1
  obtain ⟨aa, ak, az, rfl, A, a1, a2, a3, a4, a5⟩ := h2
  obtain ⟨qa, qk, qc0, rfl, Q, q1, q2, q3, q4, q5⟩ := h3
  obtain ⟨pol, rfl⟩ := h4
  refine ⟨ca, pa, aa, qa, cn, cc, pn, pc, ak, az, qk, qc0, pol, I, M, A, Q, rfl, ⟨i1, i2, by omega, m1, ?_, by omega, fun p hp => ⟨(m5 p hp).1, (m5 p hp).2.1, (m5 p hp).2.2.1⟩, fun p hp => (m5 p hp).2.2.2.1, a1, a2, a3, by omega, a5, q1, q2, q3, by omega, q5⟩, m3, fun p hp => (m5 p hp).2.2.2.2.1, fun p hp => (m5 p hp).2.2.2.2.2⟩
  unfold PtAt
  rw [← flat_fst]
  exact m2


set_option maxRecDepth 100000 in
theorem cfg_arg2 {base2 : Nat} {V : Value} {d0 : DataW H} {p0 : List MemPlace} (hv : Value.okWide Try.prog W .any base2 28 V) (h0 : DataW.Trod enc Try.prog W base (fun _ => true) true 28 V d0 p0) (hok : OkW 28 d0) :
    ∃ (ca pa aa qa : Option Addr) (cn cc pn pc ak az qk qc : Nat) (pol : Int) (I : List Int) (M : List (Prt × List ByteArray)) (A : List Acc) (Q : List Qu), V = .agg #[.slice ca cn cc, .slice pa pn pc, .slice aa ak az, .slice qa qk qc, .int .u8 pol] ∧ CfgIn W ca pa aa qa cn cc pn pc ak az qk qc I M A Q ∧ pn ≤ pc ∧ (∀ p ∈ M, p.1.dn ≤ p.1.dc) ∧ (∀ p ∈ M, p.1.name.size ≤ 9223372036854775807) := by
  obtain ⟨cs, rfl, _⟩ := okWide_struct Try.underlying28 hv
  obtain ⟨fuel, hf⟩ := h0
  obtain ⟨ca, pa, aa, qa, cn, cc, pn, pc, ak, az, qk, qc, pol, I, M, A, Q, he, hin⟩ := is_cfg2 enc W base fuel _ (d0, p0) hf hok
  obtain ⟨l⟩ := cs
  simp only [Value.cells] at he
  subst he
  exact ⟨ca, pa, aa, qa, cn, cc, pn, pc, ak, az, qk, qc, pol, I, M, A, Q, rfl, hin⟩


set_option maxRecDepth 100000 in
theorem spec_arg2 {base2 : Nat} {V : Value} {d0 : DataW H} {p0 : List MemPlace} (hv : Value.okWide Try.prog W .any base2 31 V) (h0 : DataW.Trod enc Try.prog W base (fun _ => true) true 31 V d0 p0) (hok : OkW 31 d0) :
    ∃ (s : Spc) (D : List Dp), V = .agg (sc s).toArray ∧ D.length = s.dn ∧ DAt W s.da D ∧ s.dn * 16 ≤ 140737488355328 ∧ s.user.size ≤ 9223372036854775807 := by
  obtain ⟨cs, rfl, _⟩ := okWide_struct Try.underlying31 hv
  obtain ⟨fuel, hf⟩ := h0
  obtain ⟨⟨s, D⟩, he, h1⟩ := is_spec2 enc W base fuel _ (d0, p0) hf hok
  obtain ⟨l⟩ := cs
  simp only [Value.cells] at he
  subst he
  exact ⟨s, D, rfl, h1⟩

end

end Go.Proofs.Ytilncacmkfohdaa
