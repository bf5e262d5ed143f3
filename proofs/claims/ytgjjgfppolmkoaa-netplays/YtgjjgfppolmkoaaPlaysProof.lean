/- NetPlays answers true for every script, and leaves memory as it was. No condition beyond the form's own reach. -/
import Derived.Test.YtgjjgfppolmkoaaRows
import Derived.Test.YtgjjgfppolmkoaaPlaysWalk
import Derived.Test.YtgjjgfppolmkoaaArg
import Derived.Lib.SmallJoins
import Derived.Deep.SlicePairs
import Derived.Deep.Slices
import Derived.WalkKit
import Derived.ProofKit
import Derived.OpenShut
import Derived.ShutString
import Derived.ChangeOld
import Derived.Below
namespace Go.Proofs.Ytgjjgfppolmkoaa
section
open Go.ChangeShapes Go.WideShapes Go.ChangeAt Go.RowKit

def slO (t : Option Addr × Nat × List UInt8) : Value := .slice t.1 t.2.2.length t.2.1

theorem int_cell {H : Type} {enc : TypeId × Value → H} {W : World} {base n : Nat} {V : Value} {y : DataW H × List MemPlace}
    (h : DataW.trod enc Try.prog W base (fun _ => true) true n 3 [V] = some y) : ∃ k : Int, V = .int .i64 k ∧ (Lit.int .i64 k).wf = true := by
  obtain ⟨m, hm, _, hw⟩ := DataW.trod_int Try.underlying3 h
  exact ⟨m, by simpa using hm, hw⟩

theorem bytes_cellO {H : Type} {enc : TypeId × Value → H} {W : World} {base n : Nat} {V : Value} {y : DataW H × List MemPlace}
    (h : DataW.trod enc Try.prog W base (fun _ => true) true n 27 [V] = some y) : ∃ t : Option Addr × Nat × List UInt8, V = slO t ∧ At W t.1 t.2.2 ∧ (t.2.2.length = 0 ∨ ∃ k ∈ y.1.weights Try.prog 27, t.2.2.length ≤ k) := by
  have hV : ∃ a len cap, V = .slice a len cap := by
    rcases open_ints Try.underlying27 Try.underlying5 (by kernel_rfl) h with ⟨hcs, _⟩ | ⟨x, m, c, zs, hcs, _⟩
    · exact ⟨none, 0, 0, by simpa using hcs⟩
    · exact ⟨some x, m, c, by simpa using hcs⟩
  obtain ⟨a, len, cap, rfl⟩ := hV
  have hT : DataW.Trod enc Try.prog W base (fun _ => true) true 27 (.slice a len cap) y.1 y.2 := ⟨n, h⟩
  obtain ⟨l, hl, hat, hlc, hd⟩ := bytes_arg hT
  refine ⟨(a, cap, l), by simp [slO, hl], hat, ?_⟩
  have b5 : Try.prog.bytesOf 5 = 1 := by kernel_rfl
  rcases hd with ⟨_, rfl⟩ | ⟨elems, spare, he, hc⟩
  · left
    show l.length = 0
    omega
  · right
    refine ⟨(elems.length + spare.length) * Try.prog.bytesOf 5, by rw [he]; simp [DataW.weights, Try.underlying27], ?_⟩
    show l.length ≤ _
    rw [b5]
    omega

theorem mem_weightsAll {H : Type} {P : Program} {e : TypeId} {k : Nat} : ∀ {l : List (DataW H)} {d : DataW H}, d ∈ l → k ∈ d.weights P e → k ∈ DataW.weightsAll P e l
  | x :: r, d, hd, hk => by
    simp only [DataW.weightsAll, List.mem_append]
    rcases List.mem_cons.1 hd with rfl | h
    · exact .inl hk
    · exact .inr (mem_weightsAll h hk)

theorem struct45 : ∃ f0 f1 f2 f3 f4 f5 : Field, Try.prog.underlying 45 = some (.struct #[f0, f1, f2, f3, f4, f5]) ∧ f0.offset = 0 ∧ f1.offset = 1 ∧ f2.offset = 2 ∧ f3.offset = 3 ∧ f4.offset = 4 ∧ f5.offset = 5 ∧ f0.type = 3 ∧ f1.type = 3 ∧ f2.type = 3 ∧ f3.type = 3 ∧ f4.type = 27 ∧ f5.type = 3 :=
  ⟨_, _, _, _, _, _, Try.underlying45, rfl, rfl, rfl, rfl, rfl, rfl, rfl, rfl, rfl, rfl, rfl, rfl⟩

theorem len6 {α : Type} : ∀ {l : List α}, l.length = 6 → ∃ a b c d e f, l = [a, b, c, d, e, f]
  | [a, b, c, d, e, f], _ => ⟨a, b, c, d, e, f, rfl⟩

theorem ops_arg {H : Type} {enc : TypeId × Value → H} {W : World} {base : Nat} {a0 : Option Addr} {len0 cap0 : Nat} {d0 : DataW H} {p0 : List MemPlace}
    (h0 : DataW.Trod enc Try.prog W base (fun _ => true) true 37 (.slice a0 len0 cap0) d0 p0) : ∃ ops : List Opr, ops.length = len0 ∧ OAt W a0 ops ∧ ∀ o ∈ ops, At W o.a o.body ∧ (o.body.length = 0 ∨ ∃ k ∈ d0.weights Try.prog 37, o.body.length ≤ k) ∧ (Lit.int .i64 o.num).wf = true ∧ (Lit.int .i64 o.on).wf = true := by
  obtain ⟨fuel, hf⟩ := h0
  have c3 : Try.prog.cellsOf 3 = 1 := by kernel_rfl
  have c27 : Try.prog.cellsOf 27 = 1 := by kernel_rfl
  have ce : Try.prog.cellsOf 45 = 6 := by kernel_rfl
  rcases Deep.open_slice Try.underlying37 hf with ⟨hcs, _⟩ | ⟨x, len, cap, m, n, D, Pl, hcs, _, hl, hm, hmm, hd, hx⟩
  · simp [Value.cells] at hcs
    obtain ⟨rfl, rfl, rfl⟩ := hcs
    exact ⟨[], rfl, fun h => absurd rfl h, by simp⟩
  · simp [Value.cells] at hcs
    obtain ⟨rfl, rfl, rfl⟩ := hcs
    have hmc : m = cap0 := by rw [hmm]; rfl
    obtain ⟨f0, f1, f2, f3, f4, f5, he, o0, o1, o2, o3, o4, o5, t0, t1, t2, t3, t4, t5⟩ := struct45
    have each : ∀ i, i < len0 → ∃ o : Opr, (W.cell? (x.add (i * 6)) = some (.int .i64 o.kind) ∧ W.cell? (x.add (i * 6 + 1)) = some (.int .i64 o.on) ∧ W.cell? (x.add (i * 6 + 2)) = some (.int .i64 o.fr) ∧ W.cell? (x.add (i * 6 + 3)) = some (.int .i64 o.to) ∧ W.cell? (x.add (i * 6 + 4)) = some (.slice o.a o.body.length o.c) ∧ W.cell? (x.add (i * 6 + 5)) = some (.int .i64 o.num)) ∧ At W o.a o.body ∧ (o.body.length = 0 ∨ ∃ k ∈ d0.weights Try.prog 37, o.body.length ≤ k) ∧ (Lit.int .i64 o.num).wf = true ∧ (Lit.int .i64 o.on).wf = true := fun i hi => by
      obtain ⟨cs', h1, h2⟩ := hx i (by omega)
      rw [ce] at h1
      obtain ⟨_, hlen, hcell⟩ := World.cells?_some h1
      obtain ⟨xs, k, hk, hxy, _, hxl, hfs⟩ := DataW.trod_struct he h2
      obtain ⟨y0, y1, y2, y3, y4, y5, rfl⟩ := len6 (l := xs) (by simpa using hxl)
      obtain ⟨v0, v1, v2, v3, v4, v5, rfl⟩ := len6 (l := cs') (by simpa using hlen)
      have g0 := hfs 0 f0 rfl
      have g1 := hfs 1 f1 rfl
      have g2 := hfs 2 f2 rfl
      have g3 := hfs 3 f3 rfl
      have g4 := hfs 4 f4 rfl
      have g5 := hfs 5 f5 rfl
      simp [o0, o1, o2, o3, o4, o5, t0, t1, t2, t3, t4, t5, c3, c27] at g0 g1 g2 g3 g4 g5
      have e0 := hcell 0 (by omega)
      have e1 := hcell 1 (by omega)
      have e2 := hcell 2 (by omega)
      have e3 := hcell 3 (by omega)
      have e4 := hcell 4 (by omega)
      have e5 := hcell 5 (by omega)
      rw [Deep.add_add] at e0 e1 e2 e3 e4 e5
      obtain ⟨k0, rfl, _⟩ := int_cell g0
      obtain ⟨k1, rfl, hw1⟩ := int_cell g1
      obtain ⟨k2, rfl, _⟩ := int_cell g2
      obtain ⟨k3, rfl, _⟩ := int_cell g3
      obtain ⟨t, rfl, hat, hwt⟩ := bytes_cellO g4
      obtain ⟨k5, rfl, hw5⟩ := int_cell g5
      refine ⟨⟨k0, k1, k2, k3, t.1, t.2.1, t.2.2, k5⟩, ⟨by simpa using e0, by simpa using e1, by simpa using e2, by simpa using e3, by simpa [slO] using e4, by simpa using e5⟩, hat, ?_, hw5, hw1⟩
      rcases hwt with h | ⟨kk, hkk, hle⟩
      · exact .inl h
      · refine .inr ⟨kk, ?_, hle⟩
        simp only [Prod.mk.injEq] at hd hxy
        rw [hd.1]
        simp only [DataW.weights, Try.underlying37, List.mem_cons, List.mem_append]
        refine .inr (.inl (mem_weightsAll (d := D i) (List.mem_map.2 ⟨i, List.mem_range.2 hi, rfl⟩) ?_))
        rw [hxy.1]
        simp [DataW.weights, he, DataW.weightsEach, t0, t1, t2, t3, t4, t5, hkk]
    haveI : Inhabited Opr := ⟨⟨0, 0, 0, 0, none, 0, [], 0⟩⟩
    obtain ⟨f, hfp⟩ := Deep.choose_lt each
    refine ⟨(List.range len0).map f, by simp, fun hne => ?_, fun t ht => ?_⟩
    · have hpos : 0 < len0 := by
        rcases Nat.eq_zero_or_pos len0 with h | h
        · exact absurd (by simp [h]) hne
        · exact h
      obtain ⟨b, o, spot⟩ := x
      have hc0 := (hfp 0 hpos).1.1
      have hspot : spot = none := by simpa [Addr.add] using World.cell?_spot hc0
      subst hspot
      have hplain : ∀ q, (⟨b, o, none⟩ : Addr).add q = ⟨b, o + q, none⟩ := fun q => by unfold Addr.add; split <;> simp_all
      refine ⟨b, o, rfl, fun j hj => ?_⟩
      have hj' : j < len0 := by simpa using hj
      have := (hfp j hj').1
      simp only [hplain] at this
      simp only [List.getElem_map, List.getElem_range]
      simpa only [Nat.add_assoc] using this
    · obtain ⟨j, hj, rfl⟩ := List.mem_map.1 ht
      exact (hfp j (List.mem_range.1 hj)).2


end
end Go.Proofs.Ytgjjgfppolmkoaa

namespace Go.Proofs.Ytgjjgfppolmkoaa.netPlays
open Go.ChangeShapes Go.WideShapes Go.ChangeAt Go.RowKit
open Go.ChangeMaps (open_string shut_string)
set_option linter.unusedVariables false

theorem own : ownKnob Try.prog.godebug = none := by kernel_rfl
theorem laidOut : laidOutB Try.prog = true := by kernel_rfl

set_option maxRecDepth 100000 in
theorem lifted (os : Os) (started : os.Started) (H : Type) (enc : TypeId × Value → H) :
    ReturnsInHanded {} Try.checked os 4 .any (Rows.netPlaysSpec.pre6 enc Try.prog Try.f4 Rows.netPlaysRow.domain false) (Rows.netPlaysSpec.post enc Try.prog Try.f4 false true false false) := by
  refine returnsInHanded_of_change_sized (C := Try.checked) own started (by kernel_rfl) Try.func4
    (ChangeSpec.witness6 (enc := enc) (C := Try.checked) false ⟨#[], #[.bool false, .slice none 0 0], []⟩ 8 (by kernel_rfl) (by kernel_rfl) (by kernel_rfl) (by kernel_rfl)) ?_
  intro W base args ds gs before hval0 hW hcnd hsz0 _
  have hsz : (DataW.weightsEach Try.prog (Try.f4.params.toList ++ Rows.netPlaysSpec.plain.varTypes Try.prog) (ds ++ gs)).all (· ≤ reachBytes) = true := hsz0
  clear hsz0
  have hval : ∀ (j : Nat) t v, Try.f4.params[j]? = some t → args[j]? = some v → Value.okWide Try.prog W .any base t v := hval0
  have hW' := hW
  obtain ⟨p, q, hA0, hV, rfl, hfz, hnd⟩ := hW
  have hA : DataW.TrodAll enc Try.prog W 0 (fun _ => true) true Try.f4.params.toList args.toList ds p := hA0
  rw [Try.params4] at hA hval hsz
  obtain ⟨v0, vs0, d0, ds0, p0, q0, hargs, rfl, rfl, h0, r0⟩ := trodAll_cons hA
  obtain ⟨v1, vs1, d1, ds1, p1, q1, rfl, rfl, rfl, h1, r1⟩ := trodAll_cons r0
  obtain ⟨rfl, rfl, rfl⟩ := trodAll_nil r1
  obtain rfl : args = #[v0, v1] := by cases args; simp_all
  obtain ⟨rfl, rfl⟩ := trodVars_none hV
  obtain ⟨many, rfl, rfl, rfl⟩ := open_bool Try.underlying4 (hval 0 4 v0 rfl rfl) h0
  obtain ⟨a0, len0, cap0, rfl⟩ := okWide_slice Try.underlying37 (hval 1 37 v1 rfl rfl)
  have k1 := h1
  have lt1 : ∀ x ∈ p1, x.block < W.heap.size := by obtain ⟨m, hm⟩ := k1; exact DataW.trod_lt m _ _ _ hm
  obtain ⟨ops, hops, hO, hB⟩ := ops_arg h1
  have hB2 : ∀ o ∈ ops, At W o.a o.body ∧ o.body.length ≤ 140737488355328 ∧ (Lit.int .i64 o.num).wf = true ∧ (Lit.int .i64 o.on).wf = true := fun o ho => by
    obtain ⟨b1, b2, b3, b4⟩ := hB o ho
    refine ⟨b1, ?_, b3, b4⟩
    rcases b2 with e | ⟨k, hk, hle⟩
    · omega
    · have h2 := List.all_eq_true.1 hsz _ (DataW.weights_mem_each (j := 1) rfl rfl k hk)
      have h3 : reachBytes = 140737488351232 := rfl
      have h4 : k ≤ reachBytes := by simpa using h2
      omega
  clear hA0 hval0
  refine (plays_any many a0 len0 cap0 ops W hops hO hB2).mono fun e W' ⟨he, bel⟩ => ?_
  subst he
  exact ⟨_, rfl, _, _, _, [], _, [], hW', trodAll_mk1 (shut_bool Try.underlying4 _), (trodAll_cons_mk (shut_bool Try.underlying4 _) (trodAll_cons_mk (Below.trod laidOut (by kernel_rfl) (of_decide_eq_true (by kernel_rfl)) k1 bel lt1) trodAll_mk0)), rfl, bel.frame _, fun h => by cases h⟩

theorem over : Rows.netPlaysRow.holds Try.pinned (OpenSpec.ofChange Rows.netPlaysSpec) :=
  OpenClaim.holds_of_wide 4 Try.f4 rfl rfl rfl rfl rfl rfl rfl ⟨rfl, rfl, rfl, rfl, rfl⟩ rfl rfl rfl rfl rfl (by kernel_rfl) Try.func4 (by kernel_rfl)
    (of_decide_eq_true (by kernel_rfl)) (by unfold Func.isWrapper; first | (rw [if_pos (by decide +kernel)]; kernel_rfl) | (rw [if_neg (by decide +kernel)]; exact ⟨rfl, rfl⟩))
    (fun os started H enc _ => lifted os started H enc)

end Go.Proofs.Ytgjjgfppolmkoaa.netPlays

namespace Go.Proofs.Ytgjjgfppolmkoaa
theorem netPlays_holds : Rows.NetPlaysSaid := netPlays.over
#print axioms netPlays_holds
end Go.Proofs.Ytgjjgfppolmkoaa
