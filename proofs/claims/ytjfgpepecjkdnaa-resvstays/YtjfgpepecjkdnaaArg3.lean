/- What a list of reservations is, and a list of times. -/
import Derived.Test.YtjfgpepecjkdnaaArg
import Derived.Test.YtjfgpepecjkdnaaRb
namespace Go.Proofs.Ytjfgpepecjkdnaa
open Go.ChangeShapes Go.WideShapes Go.ChangeAt Go.RowKit
section
variable {H : Type} (enc : TypeId × Value → H) (W : World) (base : Nat)
theorem c38 : Try.prog.cellsOf 38 = 5 := by kernel_rfl
theorem is_resv : Is enc W base 38 (fun cs => ∃ x : Prt × List ByteArray, cs = pc5 x.1 ∧ x.2.length = x.1.dn ∧ TAt W x.1.da x.2 ∧ x.1.dn * 16 ≤ 140737488355328 ∧ ∃ z : Nat, x.1.nodes = (z : Int) ∧ z < 4294967296) := by
  refine is_struct enc W base Try.underlying38 _ fun cs hl h => ?_
  obtain ⟨a, b, c, d, e, rfl⟩ := len5 (by rw [hl]; exact c38)
  haveI : Inhabited ByteArray := ⟨ByteArray.empty⟩
  have h0 := h 0 _ rfl _ (is_str enc W base (t := 9) Try.underlying9)
  have h1 := h 1 _ rfl _ (is_u32 enc W base (t := 31) Try.underlying31)
  have h2 := h 2 _ rfl _ (is_int enc W base (t := 2) Try.underlying2)
  have h3 := h 3 _ rfl _ (is_int enc W base (t := 2) Try.underlying2)
  have h4 := h 4 _ rfl _ (is_slice enc W base (ts := 36) (te := 9) (fun x => [Value.string x]) 1 16 (fun _ => True) Try.underlying36 c9 (by kernel_rfl) (fun _ => rfl) (by omega) (is_text enc W base))
  simp [c2, c9, c51, c70] at h0 h1 h2 h3 h4
  obtain ⟨x, rfl, _⟩ := h0
  obtain ⟨y, rfl, hy⟩ := h1
  obtain ⟨z, rfl⟩ := h2
  obtain ⟨u, rfl⟩ := h3
  obtain ⟨ta, tn, tc, rfl, B, hB, hat, hle, hby⟩ := h4
  refine ⟨(⟨x, (y : Int), z, u, ta, tn, tc⟩, B), rfl, hB, ?_, by dsimp only; omega, y, rfl, hy⟩
  unfold TAt
  rw [← map_S]
  exact hat
theorem is_num2 : Is enc W base 2 (fun cs => ∃ x : Int, cs = ic x ∧ True) := fun n cs y h hok => by
  obtain ⟨s, hs⟩ := is_int enc W base (t := 2) Try.underlying2 n cs y h hok
  exact ⟨s, hs, trivial⟩

theorem resvs_arg {a0 : Option Addr} {len0 cap0 : Nat} {d0 : DataW H} {p0 : List MemPlace} (h0 : DataW.Trod enc Try.prog W base (fun _ => true) true 29 (.slice a0 len0 cap0) d0 p0) (hok : OkW 29 d0) :
    ∃ M : List (Prt × List ByteArray), RL W a0 len0 M ∧ len0 ≤ cap0 ∧ PIn W M ∧ len0 * 64 ≤ 140737488351232 := by
  obtain ⟨fuel, hf⟩ := h0
  haveI : Inhabited Prt := ⟨prt0⟩
  obtain ⟨a, len, cap, M, he, h1, h2, h3, h4, h5⟩ := is_slice enc W base (ts := 29) (te := 38) (fun x : Prt × List ByteArray => pc5 x.1) 5 64 _ Try.underlying29 c38 (by kernel_rfl) (fun _ => rfl) (by omega) (is_resv enc W base) fuel _ (d0, p0) hf hok
  simp [Value.cells] at he
  obtain ⟨rfl, rfl, rfl⟩ := he
  refine ⟨M, ⟨h1, ?_, fun p hp => ⟨(h5 p hp).1, (h5 p hp).2.1, by have := (h5 p hp).2.2.1; omega⟩, fun p hp => (h5 p hp).2.2.2, by omega⟩, h3, fun p hp => ⟨(h5 p hp).1, (h5 p hp).2.1, (h5 p hp).2.2.1⟩, by omega⟩
  unfold PtAt
  rw [← flat_fst]
  exact h2

theorem times_arg {a0 : Option Addr} {len0 cap0 : Nat} {d0 : DataW H} {p0 : List MemPlace} (h0 : DataW.Trod enc Try.prog W base (fun _ => true) true 48 (.slice a0 len0 cap0) d0 p0) (hok : OkW 48 d0) :
    ∃ T : List Int, T.length = len0 ∧ IAt W a0 T ∧ len0 * 8 ≤ 140737488351232 := by
  obtain ⟨fuel, hf⟩ := h0
  obtain ⟨a, len, cap, T, he, h1, h2, h3, h4, h5⟩ := is_slice enc W base (ts := 48) (te := 2) ic 1 8 (fun _ => True) Try.underlying48 c2 (by kernel_rfl) ic_len (by omega) (is_num2 enc W base) fuel _ (d0, p0) hf hok
  simp [Value.cells] at he
  obtain ⟨rfl, rfl, rfl⟩ := he
  exact ⟨T, h1, h2, by omega⟩
end
theorem cfr_in {W : World} {ca pa aa qa : Option Addr} {cn cc pn pc ak az qk qc : Nat} {I : List Int} {M : List (Prt × List ByteArray)} {A : List Acc} {Q : List Qu} (h : CfgIn W ca pa aa qa cn cc pn pc ak az qk qc I M A Q) : CfR W ca pa aa qa cn pn ak az qk I M A Q :=
  ⟨h.il, h.iat, by have := h.ib; omega, h.ml, h.mat, by have := h.mb; omega, fun p hp => ⟨(h.min p hp).1, (h.min p hp).2.1, by have := (h.min p hp).2.2; omega⟩, h.set, h.al, h.aat, h.ale, by have := h.ab; omega, h.ql, h.qat, by have := h.qb; omega⟩
end Go.Proofs.Ytjfgpepecjkdnaa
