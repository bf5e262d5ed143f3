/- What a []Life among the arguments is. -/
import Derived.Test.YtcbgnodmamcmkaaKeptE
import Derived.WalkKit
import Derived.ProofKit
import Derived.OpenShut
import Derived.ShutString
import Derived.ChangeOld
import Derived.Below
import Derived.SizedLaws
import Derived.Deep.SlicePairs
import Derived.Deep.Slices
import Derived.Lib.SmallJoins
namespace Go.Proofs.Ytcbgnodmamcmkaa
open Go.ChangeShapes Go.WideShapes Go.ChangeAt Go.RowKit

theorem ints_cell {H : Type} {enc : TypeId × Value → H} {W : World} {base n : Nat} {V : Value} {y : DataW H × List MemPlace}
    (h : DataW.trod enc Try.prog W base (fun _ => true) true n 73 [V] = some y) : ∃ (a : Option Addr) (len cap : Nat) (ws : List Int), V = .slice a len cap ∧ ws.length = len ∧ len ≤ cap ∧ CAt W a (ws.map fun k => Value.int .i64 k) := by
  rcases open_ints Try.underlying73 Try.underlying3 (by kernel_rfl) h with ⟨hcs, _⟩ | ⟨x, len0, cap0, zs, hcs, _, hl, hm, hz, hx, hcell, hwz⟩
  · exact ⟨none, 0, 0, [], by simpa using hcs, rfl, Nat.le_refl _, CAt.nil _ _⟩
  · have hz' : zs.length = cap0 := by simpa using hz
    refine ⟨some x, len0, cap0, zs.take len0, by simpa using hcs, by rw [List.length_take]; omega, hl, ?_⟩
    intro hne
    have hpos : 0 < zs.length := by
      rcases Nat.eq_zero_or_pos zs.length with h | h
      · exfalso; apply hne; rw [List.eq_nil_of_length_eq_zero h]; simp
      · exact h
    obtain ⟨b, o, spot⟩ := x
    have hc0 := hcell 0 (by omega)
    have hspot : spot = none := by simpa [Addr.add] using World.cell?_spot hc0
    subst hspot
    refine ⟨b, o, rfl, fun i hi => ?_⟩
    have hi2 : i < zs.length := by simp at hi; omega
    have hplain : (⟨b, o, none⟩ : Addr).add i = ⟨b, o + i, none⟩ := by unfold Addr.add; split <;> simp_all
    have hc := hcell i (by omega)
    rw [hplain] at hc
    rw [hc]
    simp [List.getD, hi2]

theorem int_cellk {H : Type} {enc : TypeId × Value → H} {W : World} {base n : Nat} {V : Value} {y : DataW H × List MemPlace}
    (h : DataW.trod enc Try.prog W base (fun _ => true) true n 3 [V] = some y) : ∃ k : Int, V = .int .i64 k := by
  obtain ⟨m, hm, _, _⟩ := DataW.trod_int Try.underlying3 h
  exact ⟨m, by simpa using hm⟩

theorem len5 {α : Type} : ∀ {l : List α}, l.length = 5 → ∃ a b c d e, l = [a, b, c, d, e]
  | [a, b, c, d, e], _ => ⟨a, b, c, d, e, rfl⟩

theorem struct75 : ∃ f0 f1 f2 f3 f4 : Field, Try.prog.underlying 75 = some (.struct #[f0, f1, f2, f3, f4]) ∧ (f0.offset = 0 ∧ f1.offset = 1 ∧ f2.offset = 2 ∧ f3.offset = 3 ∧ f4.offset = 4) ∧ f0.type = 73 ∧ f1.type = 3 ∧ f2.type = 3 ∧ f3.type = 3 ∧ f4.type = 3 :=
  ⟨_, _, _, _, _, Try.underlying75, ⟨rfl, rfl, rfl, rfl, rfl⟩, rfl, rfl, rfl, rfl, rfl⟩

theorem lives_arg {H : Type} {enc : TypeId × Value → H} {W : World} {base : Nat} {a0 : Option Addr} {len0 cap0 : Nat} {d0 : DataW H} {p0 : List MemPlace}
    (h0 : DataW.Trod enc Try.prog W base (fun _ => true) true 72 (.slice a0 len0 cap0) d0 p0) : ∃ Ls : List Lf, Ls.length = len0 ∧ LAt W a0 Ls := by
  obtain ⟨fuel, hf⟩ := h0
  have c3 : Try.prog.cellsOf 3 = 1 := by kernel_rfl
  have c73 : Try.prog.cellsOf 73 = 1 := by kernel_rfl
  have ce : Try.prog.cellsOf 75 = 5 := by kernel_rfl
  rcases Deep.open_slice Try.underlying72 hf with ⟨hcs, hd⟩ | ⟨x, len, cap, m, n, D, Pl, hcs, _, hl, hm, hmm, hd, hx⟩
  · simp [Value.cells] at hcs
    obtain ⟨rfl, rfl, rfl⟩ := hcs
    exact ⟨[], rfl, CAt.nil _ _, fun y hy => by cases hy⟩
  · simp [Value.cells] at hcs
    obtain ⟨rfl, rfl, rfl⟩ := hcs
    have hmc : m = cap0 := by rw [hmm]; rfl
    obtain ⟨f0, f1, f2, f3, f4, he, ⟨o0, o1, o2, o3, o4⟩, t0, t1, t2, t3, t4⟩ := struct75
    have each : ∀ i, i < len0 → ∃ y : Lf, (W.cell? (x.add (i * 5)) = some (.slice y.wa y.wl y.wc) ∧ W.cell? (x.add (i * 5 + 1)) = some (.int .i64 y.arm) ∧ W.cell? (x.add (i * 5 + 2)) = some (.int .i64 y.keep) ∧ W.cell? (x.add (i * 5 + 3)) = some (.int .i64 y.torn) ∧ W.cell? (x.add (i * 5 + 4)) = some (.int .i64 y.again)) ∧ y.ws.length = y.wl ∧ y.wl ≤ y.wc ∧ CAt W y.wa (y.ws.map fun k => Value.int .i64 k) := fun i hi => by
      obtain ⟨cs', h1, h2⟩ := hx i (by omega)
      rw [ce] at h1
      obtain ⟨_, hlen, hcell⟩ := World.cells?_some h1
      obtain ⟨xs, k, hk, hxy, _, hxl, hfs⟩ := DataW.trod_struct he h2
      obtain ⟨y0, y1, y2, y3, y4, rfl⟩ := len5 (l := xs) (by simpa using hxl)
      obtain ⟨v0, v1, v2, v3, v4, rfl⟩ := len5 (l := cs') (by simpa using hlen)
      have g0 := hfs 0 f0 rfl
      have g1 := hfs 1 f1 rfl
      have g2 := hfs 2 f2 rfl
      have g3 := hfs 3 f3 rfl
      have g4 := hfs 4 f4 rfl
      simp [o0, o1, o2, o3, o4, t0, t1, t2, t3, t4, c3, c73] at g0 g1 g2 g3 g4
      have e0 := hcell 0 (by omega)
      have e1 := hcell 1 (by omega)
      have e2 := hcell 2 (by omega)
      have e3 := hcell 3 (by omega)
      have e4 := hcell 4 (by omega)
      rw [Deep.add_add] at e0 e1 e2 e3 e4
      obtain ⟨wa, wl, wc, ws, rfl, hw1, hw2, hw3⟩ := ints_cell g0
      obtain ⟨k1, rfl⟩ := int_cellk g1
      obtain ⟨k2, rfl⟩ := int_cellk g2
      obtain ⟨k3, rfl⟩ := int_cellk g3
      obtain ⟨k4, rfl⟩ := int_cellk g4
      exact ⟨⟨wa, wl, wc, ws, k1, k2, k3, k4⟩, ⟨by simpa using e0, by simpa using e1, by simpa using e2, by simpa using e3, by simpa using e4⟩, hw1, hw2, hw3⟩
    haveI : Inhabited Lf := ⟨⟨none, 0, 0, [], 0, 0, 0, 0⟩⟩
    obtain ⟨f, hfp⟩ := Deep.choose_lt each
    refine ⟨(List.range len0).map f, by simp, fun hne => ?_, fun y hy => ?_⟩
    · have hpos : 0 < len0 := by
        rcases Nat.eq_zero_or_pos len0 with h | h
        · exact absurd (by simp [h]) hne
        · exact h
      obtain ⟨b, o, spot⟩ := x
      have hc0 := (hfp 0 hpos).1.1
      have hspot : spot = none := by simpa [Addr.add] using World.cell?_spot hc0
      subst hspot
      have hplain : ∀ q, (⟨b, o, none⟩ : Addr).add q = ⟨b, o + q, none⟩ := fun q => by unfold Addr.add; split <;> simp_all
      refine ⟨b, o, rfl, fun j hj => ?_⟩
      have hlen : ((List.range len0).map f).length = len0 := by simp
      have hj' : j < len0 * 5 := by rw [lfLen, hlen] at hj; exact hj
      have hjd : j / 5 < ((List.range len0).map f).length := by rw [hlen]; omega
      have hg := lf_get ((List.range len0).map f) (j / 5) (j % 5) hjd (by omega)
      have e : j / 5 * 5 + j % 5 = j := by omega
      rw [e, List.getElem?_eq_getElem hj] at hg
      have ef : ((List.range len0).map f)[j / 5] = f (j / 5) := by simp
      rw [ef] at hg
      obtain ⟨⟨h1, h2, h3, h4, h5⟩, _⟩ := hfp (j / 5) (by omega)
      rw [hplain] at h1 h2 h3 h4 h5
      have hm5 : j % 5 = 0 ∨ j % 5 = 1 ∨ j % 5 = 2 ∨ j % 5 = 3 ∨ j % 5 = 4 := by omega
      have key : ∀ (r : Nat) (u : Value), j % 5 = r → (Lf.cells (f (j / 5)))[r]? = some u → W.cell? ⟨b, o + (j / 5 * 5 + r), none⟩ = some u → W.cell? ⟨b, o + j, none⟩ = some ((((List.range len0).map f).flatMap Lf.cells)[j]) := fun r u hr hu hc => by
        rw [hr, hu] at hg
        rw [show o + j = o + (j / 5 * 5 + r) by omega, hc]
        exact hg.symm
      rcases hm5 with hz | hz | hz | hz | hz
      · exact key 0 _ hz rfl (by simpa using h1)
      · exact key 1 _ hz rfl h2
      · exact key 2 _ hz rfl h3
      · exact key 3 _ hz rfl h4
      · exact key 4 _ hz rfl h5
    · obtain ⟨i, hi, rfl⟩ := List.mem_map.1 hy
      exact (hfp i (List.mem_range.1 hi)).2

end Go.Proofs.Ytcbgnodmamcmkaa
