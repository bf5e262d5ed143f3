/- What a []api.Account and two names among the arguments are. -/
import Derived.Test.YtbemlgkaghnggaaMem
import Derived.WalkKit
import Derived.ProofKit
import Derived.OpenShut
import Derived.ShutString
import Derived.ChangeOld
import Derived.Below
import Derived.SizedLaws
import Derived.Deep.SlicePairs
import Derived.Deep.Slices
import Derived.Lib.SmallJoins
namespace Go.Proofs.Ytbemlgkaghnggaa
open Go.ChangeShapes Go.WideShapes Go.ChangeAt Go.RowKit

theorem bytes37 : Try.prog.bytesOf 37 = 40 := by kernel_rfl

theorem reach_accs {H : Type} {ts : List TypeId} {ds : List (DataW H)} (hsz : (DataW.weightsEach Try.prog ts ds).all (· ≤ reachBytes) = true) {j : Nat} {d0 : DataW H} {cap0 : Nat} (ht : ts[j]? = some 22) (hd : ds[j]? = some d0)
    (h : (d0 = .nil ∧ cap0 = 0) ∨ ∃ elems spare, d0 = .slice elems spare ∧ elems.length + spare.length = cap0) : cap0 * 40 ≤ 140737488351232 := by
  rcases h with ⟨_, rfl⟩ | ⟨elems, spare, rfl, rfl⟩
  · omega
  · have := sized_slice hsz (j := j) (t := 22) (e := 37) ht hd Try.underlying22
    rw [bytes37] at this
    have h2 : reachBytes = 140737488351232 := rfl
    omega

theorem int_cell3 {H : Type} {enc : TypeId × Value → H} {W : World} {base n : Nat} {V : Value} {y : DataW H × List MemPlace}
    (h : DataW.trod enc Try.prog W base (fun _ => true) true n 3 [V] = some y) : ∃ k : Int, V = .int .i64 k ∧ (Lit.int .i64 k).wf = true := by
  obtain ⟨m, hm, _, hw⟩ := DataW.trod_int Try.underlying3 h
  exact ⟨m, by simpa using hm, hw⟩

theorem len3 {α : Type} : ∀ {l : List α}, l.length = 3 → ∃ a b c, l = [a, b, c]
  | [a, b, c], _ => ⟨a, b, c, rfl⟩

theorem struct37 : ∃ f0 f1 f2 : Field, Try.prog.underlying 37 = some (.struct #[f0, f1, f2]) ∧ f0.offset = 0 ∧ f1.offset = 1 ∧ f2.offset = 2 ∧ f0.type = 9 ∧ f1.type = 9 ∧ f2.type = 3 :=
  ⟨_, _, _, Try.underlying37, rfl, rfl, rfl, rfl, rfl, rfl⟩

theorem str_cell {H : Type} {enc : TypeId × Value → H} {W : World} {base n : Nat} {V : Value} {y : DataW H × List MemPlace}
    (h : DataW.trod enc Try.prog W base (fun _ => true) true n 9 [V] = some y) : ∃ s : ByteArray, V = .string s ∧ s.size ≤ 9223372036854775807 := by
  obtain ⟨s, hs, _, hl⟩ := DataW.trod_string Try.underlying9 h
  exact ⟨s, by simpa using hs, hl⟩

theorem accs_arg {H : Type} {enc : TypeId × Value → H} {W : World} {base : Nat} {a0 : Option Addr} {len0 cap0 : Nat} {d0 : DataW H} {p0 : List MemPlace}
    (h0 : DataW.Trod enc Try.prog W base (fun _ => true) true 22 (.slice a0 len0 cap0) d0 p0) : ∃ B : List Acc, B.length = len0 ∧ AAt W a0 B ∧ len0 ≤ cap0 ∧ (∀ x ∈ B, x.1.size ≤ 9223372036854775807) ∧ ((d0 = .nil ∧ cap0 = 0) ∨ ∃ elems spare, d0 = .slice elems spare ∧ elems.length + spare.length = cap0) := by
  obtain ⟨fuel, hf⟩ := h0
  have c3 : Try.prog.cellsOf 3 = 1 := by kernel_rfl
  have c9 : Try.prog.cellsOf 9 = 1 := by kernel_rfl
  have ce : Try.prog.cellsOf 37 = 3 := by kernel_rfl
  rcases Deep.open_slice Try.underlying22 hf with ⟨hcs, hd⟩ | ⟨x, len, cap, m, n, D, Pl, hcs, _, hl, hm, hmm, hd, hx⟩
  · simp [Value.cells] at hcs
    obtain ⟨rfl, rfl, rfl⟩ := hcs
    simp only [Prod.mk.injEq] at hd
    exact ⟨[], rfl, AAt.nil _ _, Nat.le_refl _, (fun x hx => by cases hx), .inl ⟨hd.1, rfl⟩⟩
  · simp [Value.cells] at hcs
    obtain ⟨rfl, rfl, rfl⟩ := hcs
    have hmc : m = cap0 := by rw [hmm]; rfl
    simp only [Prod.mk.injEq] at hd
    obtain ⟨f0, f1, f2, he, o0, o1, o2, t0, t1, t2⟩ := struct37
    have each : ∀ i, i < len0 → ∃ o : Acc, (W.cell? (x.add (i * 3)) = some (.string o.1) ∧ W.cell? (x.add (i * 3 + 1)) = some (.string o.2.1) ∧ W.cell? (x.add (i * 3 + 2)) = some (.int .i64 o.2.2)) ∧ o.1.size ≤ 9223372036854775807 := fun i hi => by
      obtain ⟨cs', h1, h2⟩ := hx i (by omega)
      rw [ce] at h1
      obtain ⟨_, hlen, hcell⟩ := World.cells?_some h1
      obtain ⟨xs, k, hk, hxy, _, hxl, hfs⟩ := DataW.trod_struct he h2
      obtain ⟨y0, y1, y2, rfl⟩ := len3 (l := xs) (by simpa using hxl)
      obtain ⟨v0, v1, v2, rfl⟩ := len3 (l := cs') (by simpa using hlen)
      have g0 := hfs 0 f0 rfl
      have g1 := hfs 1 f1 rfl
      have g2 := hfs 2 f2 rfl
      simp [o0, o1, o2, t0, t1, t2, c3, c9] at g0 g1 g2
      have e0 := hcell 0 (by omega)
      have e1 := hcell 1 (by omega)
      have e2 := hcell 2 (by omega)
      rw [Deep.add_add] at e0 e1 e2
      obtain ⟨k0, rfl, hk0⟩ := str_cell g0
      obtain ⟨k1, rfl, _⟩ := str_cell g1
      obtain ⟨k2, rfl, _⟩ := int_cell3 g2
      exact ⟨(k0, k1, k2), ⟨by simpa using e0, by simpa using e1, by simpa using e2⟩, hk0⟩
    haveI : Inhabited Acc := ⟨(ByteArray.empty, ByteArray.empty, 0)⟩
    obtain ⟨f, hfp⟩ := Deep.choose_lt each
    refine ⟨(List.range len0).map f, by simp, fun hne => ?_, hl, (fun y hy => by
      obtain ⟨i, hi, rfl⟩ := List.mem_map.1 hy
      exact (hfp i (List.mem_range.1 hi)).2), .inr ⟨_, _, hd.1, by simp; omega⟩⟩
    have hpos : 0 < len0 := by
      rcases Nat.eq_zero_or_pos len0 with h | h
      · exact absurd (by simp [h]) hne
      · exact h
    obtain ⟨b, o, spot⟩ := x
    have hc0 := (hfp 0 hpos).1.1
    have hspot : spot = none := by simpa [Addr.add] using World.cell?_spot hc0
    subst hspot
    have hplain : ∀ q, (⟨b, o, none⟩ : Addr).add q = ⟨b, o + q, none⟩ := fun q => by unfold Addr.add; split <;> simp_all
    refine ⟨b, o, rfl, fun j hj => ?_⟩
    have hlen : ((List.range len0).map f).length = len0 := by simp
    have hj' : j < len0 * 3 := by rw [ac_len, hlen] at hj; exact hj
    have hjd : j / 3 < ((List.range len0).map f).length := by rw [hlen]; omega
    have hg := ac_get ((List.range len0).map f) (j / 3) (j % 3) hjd (by omega)
    have e : j / 3 * 3 + j % 3 = j := by omega
    rw [e, List.getElem?_eq_getElem hj] at hg
    have ef : ((List.range len0).map f)[j / 3] = f (j / 3) := by simp
    rw [ef] at hg
    obtain ⟨⟨h1, h2, h3⟩, _⟩ := hfp (j / 3) (by omega)
    rw [hplain] at h1 h2 h3
    have hm3 : j % 3 = 0 ∨ j % 3 = 1 ∨ j % 3 = 2 := by omega
    rcases hm3 with hz | hz | hz
    · rw [hz] at hg e
      have hv : (((List.range len0).map f).flatMap ac)[j] = .string (f (j / 3)).1 := by simpa [ac] using hg
      have e2 : o + j = o + (j / 3 * 3) := by omega
      rw [hv, e2]
      exact h1
    · rw [hz] at hg e
      have hv : (((List.range len0).map f).flatMap ac)[j] = .string (f (j / 3)).2.1 := by simpa [ac] using hg
      have e2 : o + j = o + (j / 3 * 3 + 1) := by omega
      rw [hv, e2]
      exact h2
    · rw [hz] at hg e
      have hv : (((List.range len0).map f).flatMap ac)[j] = .int .i64 (f (j / 3)).2.2 := by simpa [ac] using hg
      have e2 : o + j = o + (j / 3 * 3 + 2) := by omega
      rw [hv, e2]
      exact h3

theorem len2 {α : Type} : ∀ {l : List α}, l.length = 2 → ∃ a b, l = [a, b]
  | [a, b], _ => ⟨a, b, rfl⟩

theorem struct43 : ∃ f0 f1 : Field, Try.prog.underlying 43 = some (.struct #[f0, f1]) ∧ f0.offset = 0 ∧ f1.offset = 1 ∧ f0.type = 9 ∧ f1.type = 9 :=
  ⟨_, _, Try.underlying43, rfl, rfl, rfl, rfl⟩

set_option maxRecDepth 100000 in
theorem two_arg {H : Type} {enc : TypeId × Value → H} {W : World} {base base2 : Nat} {V : Value} {d0 : DataW H} {p0 : List MemPlace} (hv : Value.okWide Try.prog W .any base2 43 V)
    (h0 : DataW.Trod enc Try.prog W base (fun _ => true) true 43 V d0 p0) : ∃ s t : ByteArray, V = .agg #[.string s, .string t] := by
  obtain ⟨f0, f1, he, o0, o1, t0, t1⟩ := struct43
  have c9 : Try.prog.cellsOf 9 = 1 := by kernel_rfl
  have c43 : Try.prog.cellsOf 43 = 2 := by kernel_rfl
  obtain ⟨cs, rfl, hsz⟩ := okWide_struct he hv
  rw [c43] at hsz
  obtain ⟨fuel, hf⟩ := h0
  obtain ⟨xs, k, hk, hxy, _, hxl, hfs⟩ := DataW.trod_struct he hf
  obtain ⟨y0, y1, rfl⟩ := len2 (l := xs) (by simpa using hxl)
  obtain ⟨l⟩ := cs
  obtain ⟨v0, v1, rfl⟩ := len2 (l := l) (by simpa using hsz)
  have g0 := hfs 0 f0 rfl
  have g1 := hfs 1 f1 rfl
  simp [o0, o1, t0, t1, c9, Value.cells] at g0 g1
  obtain ⟨k0, rfl, _⟩ := str_cell g0
  obtain ⟨k1, rfl, _⟩ := str_cell g1
  exact ⟨k0, k1, rfl⟩

end Go.Proofs.Ytbemlgkaghnggaa
