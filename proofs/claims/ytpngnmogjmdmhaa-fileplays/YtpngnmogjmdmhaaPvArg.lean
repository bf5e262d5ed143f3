/- What a []Op among the arguments is. -/
import Derived.Test.YtpngnmogjmdmhaaRows
import Derived.Test.YtpngnmogjmdmhaaPvP
import Derived.Test.YtpngnmogjmdmhaaArg
import Derived.Lib.SmallJoins
import Derived.Deep.SlicePairs
import Derived.Deep.Slices
import Derived.WalkKit
import Derived.ProofKit
import Derived.OpenShut
import Derived.ShutString
import Derived.ChangeOld
import Derived.Below
namespace Go.Proofs.Ytpngnmogjmdmhaa
open Go.ChangeShapes Go.WideShapes Go.ChangeAt Go.RowKit

def slO (t : Option Addr × Nat × List UInt8) : Value := .slice t.1 t.2.2.length t.2.1

theorem int_cell {H : Type} {enc : TypeId × Value → H} {W : World} {base n : Nat} {V : Value} {y : DataW H × List MemPlace}
    (h : DataW.trod enc Try.prog W base (fun _ => true) true n 3 [V] = some y) : ∃ k : Int, V = .int .i64 k ∧ (Lit.int .i64 k).wf = true := by
  obtain ⟨m, hm, _, hw⟩ := DataW.trod_int Try.underlying3 h
  exact ⟨m, by simpa using hm, hw⟩

theorem bytes_cellO {H : Type} {enc : TypeId × Value → H} {W : World} {base n : Nat} {V : Value} {y : DataW H × List MemPlace}
    (h : DataW.trod enc Try.prog W base (fun _ => true) true n 26 [V] = some y) : ∃ t : Option Addr × Nat × List UInt8, V = slO t ∧ At W t.1 t.2.2 ∧ t.2.2.length ≤ t.2.1 ∧ (t.2.2.length = 0 ∨ ∃ k ∈ y.1.weights Try.prog 26, t.2.2.length ≤ k) := by
  have hV : ∃ a len cap, V = .slice a len cap := by
    rcases open_ints Try.underlying26 Try.underlying5 (by kernel_rfl) h with ⟨hcs, _⟩ | ⟨x, m, c, zs, hcs, _⟩
    · exact ⟨none, 0, 0, by simpa using hcs⟩
    · exact ⟨some x, m, c, by simpa using hcs⟩
  obtain ⟨a, len, cap, rfl⟩ := hV
  have hT : DataW.Trod enc Try.prog W base (fun _ => true) true 26 (.slice a len cap) y.1 y.2 := ⟨n, h⟩
  obtain ⟨l, hl, hat, hlc, hd⟩ := bytes_arg hT
  refine ⟨(a, cap, l), by simp [slO, hl], hat, (by show l.length ≤ cap; omega), ?_⟩
  have b5 : Try.prog.bytesOf 5 = 1 := by kernel_rfl
  rcases hd with ⟨_, rfl⟩ | ⟨elems, spare, he, hc⟩
  · left
    show l.length = 0
    omega
  · right
    refine ⟨(elems.length + spare.length) * Try.prog.bytesOf 5, by rw [he]; simp [DataW.weights, Try.underlying26], ?_⟩
    show l.length ≤ _
    rw [b5]
    omega

theorem mem_weightsAll {H : Type} {P : Program} {e : TypeId} {k : Nat} : ∀ {l : List (DataW H)} {d : DataW H}, d ∈ l → k ∈ d.weights P e → k ∈ DataW.weightsAll P e l
  | x :: r, d, hd, hk => by
    simp only [DataW.weightsAll, List.mem_append]
    rcases List.mem_cons.1 hd with rfl | h
    · exact .inl hk
    · exact .inr (mem_weightsAll h hk)

theorem struct44 : ∃ f0 f1 f2 f3 f4 f5 f6 : Field, Try.prog.underlying 44 = some (.struct #[f0, f1, f2, f3, f4, f5, f6]) ∧ f0.offset = 0 ∧ f1.offset = 1 ∧ f2.offset = 2 ∧ f3.offset = 3 ∧ f4.offset = 4 ∧ f5.offset = 5 ∧ f6.offset = 6 ∧ f0.type = 3 ∧ f1.type = 3 ∧ f2.type = 3 ∧ f3.type = 26 ∧ f4.type = 3 ∧ f5.type = 3 ∧ f6.type = 3 :=
  ⟨_, _, _, _, _, _, _, Try.underlying44, rfl, rfl, rfl, rfl, rfl, rfl, rfl, rfl, rfl, rfl, rfl, rfl, rfl, rfl⟩

theorem len7 {α : Type} : ∀ {l : List α}, l.length = 7 → ∃ a b c d e f g, l = [a, b, c, d, e, f, g]
  | [a, b, c, d, e, f, g], _ => ⟨a, b, c, d, e, f, g, rfl⟩

theorem ops_arg {H : Type} {enc : TypeId × Value → H} {W : World} {base : Nat} {a0 : Option Addr} {len0 cap0 : Nat} {d0 : DataW H} {p0 : List MemPlace}
    (h0 : DataW.Trod enc Try.prog W base (fun _ => true) true 35 (.slice a0 len0 cap0) d0 p0) : ∃ ops : List Opr, ops.length = len0 ∧ OAt W a0 ops ∧ ∀ o ∈ ops, At W o.a o.body ∧ o.body.length ≤ o.c ∧ (o.body.length = 0 ∨ ∃ k ∈ d0.weights Try.prog 35, o.body.length ≤ k) ∧ (Lit.int .i64 o.n).wf = true ∧ (Lit.int .i64 o.tn).wf = true := by
  obtain ⟨fuel, hf⟩ := h0
  have c3 : Try.prog.cellsOf 3 = 1 := by kernel_rfl
  have c26 : Try.prog.cellsOf 26 = 1 := by kernel_rfl
  have ce : Try.prog.cellsOf 44 = 7 := by kernel_rfl
  rcases Deep.open_slice Try.underlying35 hf with ⟨hcs, _⟩ | ⟨x, len, cap, m, n, D, Pl, hcs, _, hl, hm, hmm, hd, hx⟩
  · simp [Value.cells] at hcs
    obtain ⟨rfl, rfl, rfl⟩ := hcs
    exact ⟨[], rfl, fun h => absurd rfl h, by simp⟩
  · simp [Value.cells] at hcs
    obtain ⟨rfl, rfl, rfl⟩ := hcs
    have hmc : m = cap0 := by rw [hmm]; rfl
    obtain ⟨f0, f1, f2, f3, f4, f5, f6, he, o0, o1, o2, o3, o4, o5, o6, t0, t1, t2, t3, t4, t5, t6⟩ := struct44
    have each : ∀ i, i < len0 → ∃ o : Opr, (W.cell? (x.add (i * 7)) = some (.int .i64 o.kind) ∧ W.cell? (x.add (i * 7 + 1)) = some (.int .i64 o.on) ∧ W.cell? (x.add (i * 7 + 2)) = some (.int .i64 o.f) ∧ W.cell? (x.add (i * 7 + 3)) = some (.slice o.a o.body.length o.c) ∧ W.cell? (x.add (i * 7 + 4)) = some (.int .i64 o.n) ∧ W.cell? (x.add (i * 7 + 5)) = some (.int .i64 o.ec) ∧ W.cell? (x.add (i * 7 + 6)) = some (.int .i64 o.tn)) ∧ At W o.a o.body ∧ o.body.length ≤ o.c ∧ (o.body.length = 0 ∨ ∃ k ∈ d0.weights Try.prog 35, o.body.length ≤ k) ∧ (Lit.int .i64 o.n).wf = true ∧ (Lit.int .i64 o.tn).wf = true := fun i hi => by
      obtain ⟨cs', h1, h2⟩ := hx i (by omega)
      rw [ce] at h1
      obtain ⟨_, hlen, hcell⟩ := World.cells?_some h1
      obtain ⟨xs, k, hk, hxy, _, hxl, hfs⟩ := DataW.trod_struct he h2
      obtain ⟨y0, y1, y2, y3, y4, y5, y6, rfl⟩ := len7 (l := xs) (by simpa using hxl)
      obtain ⟨v0, v1, v2, v3, v4, v5, v6, rfl⟩ := len7 (l := cs') (by simpa using hlen)
      have g0 := hfs 0 f0 rfl
      have g1 := hfs 1 f1 rfl
      have g2 := hfs 2 f2 rfl
      have g3 := hfs 3 f3 rfl
      have g4 := hfs 4 f4 rfl
      have g5 := hfs 5 f5 rfl
      have g6 := hfs 6 f6 rfl
      simp [o0, o1, o2, o3, o4, o5, o6, t0, t1, t2, t3, t4, t5, t6, c3, c26] at g0 g1 g2 g3 g4 g5 g6
      have e0 := hcell 0 (by omega)
      have e1 := hcell 1 (by omega)
      have e2 := hcell 2 (by omega)
      have e3 := hcell 3 (by omega)
      have e4 := hcell 4 (by omega)
      have e5 := hcell 5 (by omega)
      have e6 := hcell 6 (by omega)
      rw [Deep.add_add] at e0 e1 e2 e3 e4 e5 e6
      obtain ⟨k0, rfl, _⟩ := int_cell g0
      obtain ⟨k1, rfl, _⟩ := int_cell g1
      obtain ⟨k2, rfl, _⟩ := int_cell g2
      obtain ⟨t, rfl, hat, hcap, hwt⟩ := bytes_cellO g3
      obtain ⟨k4, rfl, hw4⟩ := int_cell g4
      obtain ⟨k5, rfl, _⟩ := int_cell g5
      obtain ⟨k6, rfl, hw6⟩ := int_cell g6
      refine ⟨⟨k0, k1, k2, t.1, t.2.1, t.2.2, k4, k5, k6⟩, ⟨by simpa using e0, by simpa using e1, by simpa using e2, by simpa [slO] using e3, by simpa using e4, by simpa using e5, by simpa using e6⟩, hat, hcap, ?_, hw4, hw6⟩
      rcases hwt with h | ⟨kk, hkk, hle⟩
      · exact .inl h
      · refine .inr ⟨kk, ?_, hle⟩
        simp only [Prod.mk.injEq] at hd hxy
        rw [hd.1]
        simp only [DataW.weights, Try.underlying35, List.mem_cons, List.mem_append]
        refine .inr (.inl (mem_weightsAll (d := D i) (List.mem_map.2 ⟨i, List.mem_range.2 hi, rfl⟩) ?_))
        rw [hxy.1]
        simp [DataW.weights, he, DataW.weightsEach, t0, t1, t2, t3, t4, t5, t6, hkk]
    haveI : Inhabited Opr := ⟨⟨0, 0, 0, none, 0, [], 0, 0, 0⟩⟩
    obtain ⟨f, hfp⟩ := Deep.choose_lt each
    refine ⟨(List.range len0).map f, by simp, fun hne => ?_, fun t ht => ?_⟩
    · have hpos : 0 < len0 := by
        rcases Nat.eq_zero_or_pos len0 with h | h
        · exact absurd (by simp [h]) hne
        · exact h
      obtain ⟨b, o, spot⟩ := x
      have hc0 := (hfp 0 hpos).1.1
      have hspot : spot = none := by simpa [Addr.add] using World.cell?_spot hc0
      subst hspot
      have hplain : ∀ q, (⟨b, o, none⟩ : Addr).add q = ⟨b, o + q, none⟩ := fun q => by unfold Addr.add; split <;> simp_all
      refine ⟨b, o, rfl, fun j hj => ?_⟩
      have hj' : j < len0 := by simpa using hj
      have := (hfp j hj').1
      simp only [hplain] at this
      simp only [List.getElem_map, List.getElem_range]
      simpa only [Nat.add_assoc] using this
    · obtain ⟨j, hj, rfl⟩ := List.mem_map.1 ht
      exact (hfp j (List.mem_range.1 hj)).2



end Go.Proofs.Ytpngnmogjmdmhaa
