/- What a []int, a [][]api.Cut, a Span and an api.Ask among the arguments are. -/
import Derived.Test.YticlpjpbjgfgmaaAwake
import Derived.WalkKit
import Derived.ProofKit
import Derived.OpenShut
import Derived.ShutString
import Derived.ChangeOld
import Derived.Below
import Derived.SizedLaws
import Derived.Deep.SlicePairs
import Derived.Deep.Slices
import Derived.Lib.SmallJoins
namespace Go.Proofs.Yticlpjpbjgfgmaa
open Go.ChangeShapes Go.WideShapes Go.ChangeAt Go.RowKit

theorem int_cell3 {H : Type} {enc : TypeId × Value → H} {W : World} {base n : Nat} {V : Value} {y : DataW H × List MemPlace}
    (h : DataW.trod enc Try.prog W base (fun _ => true) true n 3 [V] = some y) : ∃ k : Int, V = .int .i64 k ∧ (Lit.int .i64 k).wf = true := by
  obtain ⟨m, hm, _, hw⟩ := DataW.trod_int Try.underlying3 h
  exact ⟨m, by simpa using hm, hw⟩

theorem int_cell2 {H : Type} {enc : TypeId × Value → H} {W : World} {base n : Nat} {V : Value} {y : DataW H × List MemPlace}
    (h : DataW.trod enc Try.prog W base (fun _ => true) true n 2 [V] = some y) : ∃ k : Int, V = .int .i64 k ∧ (Lit.int .i64 k).wf = true := by
  obtain ⟨m, hm, _, hw⟩ := DataW.trod_int Try.underlying2 h
  exact ⟨m, by simpa using hm, hw⟩

theorem cuts_arg {H : Type} {enc : TypeId × Value → H} {W : World} {base : Nat} {a0 : Option Addr} {len0 cap0 : Nat} {d0 : DataW H} {p0 : List MemPlace}
    (h0 : DataW.Trod enc Try.prog W base (fun _ => true) true 38 (.slice a0 len0 cap0) d0 p0) : ∃ C : List Cut, C.length = len0 ∧ SAt W a0 C ∧ len0 ≤ cap0 ∧ ((d0 = .nil ∧ cap0 = 0) ∨ ∃ elems spare, d0 = .slice elems spare ∧ elems.length + spare.length = cap0) := by
  obtain ⟨fuel, hf⟩ := h0
  rcases Deep.open_slice_pairs Try.underlying38 Try.underlying40 (by kernel_rfl) rfl rfl (by kernel_rfl) (by kernel_rfl) hf with ⟨hcs, hd⟩ | ⟨x, len, cap, m, n, V0, V1, D0, D1, P0, P1, hcs, _, hl, hm, hmm, hd, hx⟩
  · simp [Value.cells] at hcs
    obtain ⟨rfl, rfl, rfl⟩ := hcs
    simp only [Prod.mk.injEq] at hd
    exact ⟨[], rfl, SAt.nil _ _, Nat.zero_le _, .inl ⟨hd.1, rfl⟩⟩
  · simp [Value.cells] at hcs
    obtain ⟨rfl, rfl, rfl⟩ := hcs
    have hmc : m = cap0 := by rw [hmm]; rfl
    simp only [Prod.mk.injEq] at hd
    have each : ∀ i, i < len0 → ∃ q : Cut, V0 i = .int .i64 q.1 ∧ V1 i = .int .i64 q.2 := by
      intro i hi
      obtain ⟨_, _, h2, h3⟩ := hx i (by omega)
      obtain ⟨k, hk, _⟩ := int_cell2 h2
      obtain ⟨j, hj, _⟩ := int_cell3 h3
      exact ⟨(k, j), hk, hj⟩
    haveI : Inhabited Cut := ⟨(0, 0)⟩
    obtain ⟨f, hfp⟩ := Deep.choose_lt each
    refine ⟨(List.range len0).map f, by simp, ?_, hl, .inr ⟨_, _, hd.1, by simp; omega⟩⟩
    intro hne
    have hpos : 0 < len0 := by
      rcases Nat.eq_zero_or_pos len0 with h | h
      · exact absurd (by simp [h]) hne
      · exact h
    obtain ⟨b, o, spot⟩ := x
    have hc0 := (hx 0 (by omega)).1
    have hspot : spot = none := by simpa [Addr.add] using World.cell?_spot hc0
    subst hspot
    refine ⟨b, o, rfl, fun j hj => ?_⟩
    have hlen : ((List.range len0).map f).length = len0 := by simp
    have hj' : j < len0 * 2 := by rw [cc_len, hlen] at hj; exact hj
    have hplain : ∀ q, (⟨b, o, none⟩ : Addr).add q = ⟨b, o + q, none⟩ := fun q => by unfold Addr.add; split <;> simp_all
    obtain ⟨h1, h2, _, _⟩ := hx (j / 2) (by omega)
    rw [hplain] at h1 h2
    obtain ⟨g1, g2⟩ := hfp (j / 2) (by omega)
    have hjd : j / 2 < ((List.range len0).map f).length := by rw [hlen]; omega
    have hg := cc_get ((List.range len0).map f) (j / 2) (j % 2) hjd (by omega)
    have e : j / 2 * 2 + j % 2 = j := by omega
    rw [e, List.getElem?_eq_getElem hj] at hg
    have ef : ((List.range len0).map f)[j / 2] = f (j / 2) := by simp
    rw [ef] at hg
    rcases Nat.mod_two_eq_zero_or_one j with hz | hz
    · rw [hz] at hg e
      have hv : (((List.range len0).map f).flatMap cc)[j] = .int .i64 (f (j / 2)).1 := by simpa [cc] using hg
      rw [hv, ← g1, ← h1]
      congr 2
      omega
    · rw [hz] at hg e
      have hv : (((List.range len0).map f).flatMap cc)[j] = .int .i64 (f (j / 2)).2 := by simpa [cc] using hg
      rw [hv, ← g2, ← h2]
      congr 2
      omega

theorem bytes36 : Try.prog.bytesOf 40 = 16 := by kernel_rfl

theorem reach_cuts {H : Type} {ts : List TypeId} {ds : List (DataW H)} (hsz : (DataW.weightsEach Try.prog ts ds).all (· ≤ reachBytes) = true) {j : Nat} {d0 : DataW H} {cap0 : Nat} (ht : ts[j]? = some 38) (hd : ds[j]? = some d0)
    (h : (d0 = .nil ∧ cap0 = 0) ∨ ∃ elems spare, d0 = .slice elems spare ∧ elems.length + spare.length = cap0) : cap0 * 16 ≤ 140737488351232 := by
  rcases h with ⟨_, rfl⟩ | ⟨elems, spare, rfl, rfl⟩
  · omega
  · have := sized_slice hsz (j := j) (t := 38) (e := 40) ht hd Try.underlying38
    rw [bytes36] at this
    have h2 : reachBytes = 140737488351232 := rfl
    omega

theorem bytes3 : Try.prog.bytesOf 3 = 8 := by kernel_rfl

theorem ints_arg {H : Type} {enc : TypeId × Value → H} {W : World} {base : Nat} {a0 : Option Addr} {len0 cap0 : Nat} {d0 : DataW H} {p0 : List MemPlace}
    (h0 : DataW.Trod enc Try.prog W base (fun _ => true) true 22 (.slice a0 len0 cap0) d0 p0) :
    ∃ Z : List Int, Z.length = len0 ∧ CAt W a0 (Z.map Nd.I) ∧ len0 ≤ cap0 ∧ ((d0 = .nil ∧ cap0 = 0) ∨ ∃ elems spare, d0 = .slice elems spare ∧ elems.length + spare.length = cap0) := by
  obtain ⟨fuel, hf⟩ := h0
  rcases open_ints Try.underlying22 Try.underlying3 (by kernel_rfl) hf with ⟨hcs, hx⟩ | ⟨x, n, c, zs, hcs, _, hl, hm, hz, hx, hcell, hwz⟩
  · simp [Value.cells] at hcs
    obtain ⟨rfl, rfl, rfl⟩ := hcs
    simp only [Prod.mk.injEq] at hx
    exact ⟨[], rfl, CAt.nil _ _, Nat.le_refl _, .inl ⟨hx.1, rfl⟩⟩
  · simp [Value.cells] at hcs
    obtain ⟨rfl, rfl, rfl⟩ := hcs
    have hz' : zs.length = cap0 := by simpa using hz
    simp only [Prod.mk.injEq] at hx
    refine ⟨zs.take len0, by rw [List.length_take]; omega, ?_, hl, .inr ⟨_, _, hx.1, by simp [lits]; omega⟩⟩
    intro hne
    have hpos : 0 < zs.length := by
      rcases Nat.eq_zero_or_pos zs.length with h | h
      · exfalso; apply hne; rw [List.eq_nil_of_length_eq_zero h]; simp
      · exact h
    obtain ⟨b, o, spot⟩ := x
    have hc0 := hcell 0 (by omega)
    have hspot : spot = none := by simpa [Addr.add] using World.cell?_spot hc0
    subst hspot
    refine ⟨b, o, rfl, fun i hi => ?_⟩
    have hi2 : i < zs.length := by simp at hi; omega
    have hplain : (⟨b, o, none⟩ : Addr).add i = ⟨b, o + i, none⟩ := by unfold Addr.add; split <;> simp_all
    have hc := hcell i (by omega)
    rw [hplain] at hc
    rw [hc]
    simp [Nd.I, List.getD, hi2]

theorem reach_ints {H : Type} {ts : List TypeId} {ds : List (DataW H)} (hsz : (DataW.weightsEach Try.prog ts ds).all (· ≤ reachBytes) = true) {j : Nat} {d0 : DataW H} {cap0 : Nat} (ht : ts[j]? = some 22) (hd : ds[j]? = some d0)
    (h : (d0 = .nil ∧ cap0 = 0) ∨ ∃ elems spare, d0 = .slice elems spare ∧ elems.length + spare.length = cap0) : cap0 * 8 ≤ 140737488351232 := by
  rcases h with ⟨_, rfl⟩ | ⟨elems, spare, rfl, rfl⟩
  · omega
  · have := sized_slice hsz (j := j) (t := 22) (e := 3) ht hd Try.underlying22
    rw [bytes3] at this
    have h2 : reachBytes = 140737488351232 := rfl
    omega


theorem wf_u {k : Int} (h : (Lit.int .u32 k).wf = true) : ∃ n : Nat, n < 4294967296 ∧ k = (n : Int) := by
  have e0 : IntKind.u32.min = 0 := by decide
  have e1 : IntKind.u32.max = 4294967295 := by decide
  simp only [Lit.wf, e0, e1, Bool.and_eq_true, decide_eq_true_eq] at h
  exact ⟨k.toNat, by omega, by omega⟩

theorem set_cell {H : Type} {enc : TypeId × Value → H} {W : World} {base n : Nat} {V : Value} {y : DataW H × List MemPlace}
    (h : DataW.trod enc Try.prog W base (fun _ => true) true n 25 [V] = some y) : ∃ k : Nat, k < 4294967296 ∧ V = .int .u32 (k : Int) := by
  obtain ⟨m, hm, _, hw⟩ := DataW.trod_int Try.underlying25 h
  obtain ⟨k, hk, rfl⟩ := wf_u hw
  exact ⟨k, hk, by simpa using hm⟩

theorem mem_weightsAll {H : Type} {P : Program} {e : TypeId} {k : Nat} : ∀ {l : List (DataW H)} {d : DataW H}, d ∈ l → k ∈ d.weights P e → k ∈ DataW.weightsAll P e l
  | x :: r, d, hd, hk => by
    simp only [DataW.weightsAll, List.mem_append]
    rcases List.mem_cons.1 hd with rfl | h
    · exact .inl hk
    · exact .inr (mem_weightsAll h hk)

theorem cuts_cell {H : Type} {enc : TypeId × Value → H} {W : World} {base n : Nat} {V : Value} {y : DataW H × List MemPlace}
    (h : DataW.trod enc Try.prog W base (fun _ => true) true n 38 [V] = some y) : ∃ x : Nd1, V = x.val ∧ SAt W x.a x.C ∧ (x.C.length = 0 ∨ ∃ k ∈ y.1.weights Try.prog 38, x.C.length ≤ k) := by
  have hV : ∃ a len cap, V = .slice a len cap := by
    rcases Deep.open_slice_pairs Try.underlying38 Try.underlying40 (by kernel_rfl) rfl rfl (by kernel_rfl) (by kernel_rfl) h with ⟨hcs, _⟩ | ⟨x, len, cap, _, _, _, _, _, _, _, _, hcs, _⟩
    · exact ⟨none, 0, 0, by simpa using hcs⟩
    · exact ⟨some x, len, cap, by simpa using hcs⟩
  obtain ⟨a, len, cap, rfl⟩ := hV
  have hT : DataW.Trod enc Try.prog W base (fun _ => true) true 38 (.slice a len cap) y.1 y.2 := ⟨n, h⟩
  obtain ⟨C, hC, hat, hlc, hd⟩ := cuts_arg hT
  refine ⟨⟨a, cap, C⟩, by simp [Nd1.val, hC], hat, ?_⟩
  rcases hd with ⟨_, rfl⟩ | ⟨elems, spare, he, hc⟩
  · left
    show C.length = 0
    omega
  · right
    refine ⟨(elems.length + spare.length) * Try.prog.bytesOf 40, by rw [he]; simp [DataW.weights, Try.underlying38], ?_⟩
    show C.length ≤ _
    rw [bytes36]
    omega

theorem bytes38 : Try.prog.bytesOf 38 = 24 := by kernel_rfl

theorem prof_arg {H : Type} {enc : TypeId × Value → H} {W : World} {base : Nat} {a0 : Option Addr} {len0 cap0 : Nat} {d0 : DataW H} {p0 : List MemPlace}
    (h0 : DataW.Trod enc Try.prog W base (fun _ => true) true 23 (.slice a0 len0 cap0) d0 p0) : ∃ L : List Nd1, L.length = len0 ∧ PAt W a0 L ∧ len0 ≤ cap0 ∧ (∀ x ∈ L, x.C.length = 0 ∨ ∃ k ∈ d0.weights Try.prog 23, x.C.length ≤ k) ∧ ((d0 = .nil ∧ cap0 = 0) ∨ ∃ elems spare, d0 = .slice elems spare ∧ elems.length + spare.length = cap0) := by
  obtain ⟨fuel, hf⟩ := h0
  rcases Deep.open_slice1 Try.underlying23 (by kernel_rfl) hf with ⟨hcs, hd⟩ | ⟨x, len, cap, m, n, V, D, Pl, hcs, _, hl, hm, hmm, hd, hx⟩
  · simp [Value.cells] at hcs
    obtain ⟨rfl, rfl, rfl⟩ := hcs
    simp only [Prod.mk.injEq] at hd
    exact ⟨[], rfl, PAt.nil _ _, Nat.zero_le _, (fun x h => by cases h), .inl ⟨hd.1, rfl⟩⟩
  · simp [Value.cells] at hcs
    obtain ⟨rfl, rfl, rfl⟩ := hcs
    have hmc : m = cap0 := by rw [hmm]; rfl
    simp only [Prod.mk.injEq] at hd
    have each : ∀ i, i < len0 → ∃ it : Nd1, V i = it.val ∧ SAt W it.a it.C ∧ (it.C.length = 0 ∨ ∃ k ∈ d0.weights Try.prog 23, it.C.length ≤ k) := by
      intro i hi
      obtain ⟨_, h3⟩ := hx i (by omega)
      obtain ⟨it, hv, hat, hb⟩ := cuts_cell h3
      refine ⟨it, hv, hat, ?_⟩
      rcases hb with h | ⟨kk, hkk, hle⟩
      · exact .inl h
      · refine .inr ⟨kk, ?_, hle⟩
        rw [hd.1]
        simp only [DataW.weights, Try.underlying23, List.mem_cons, List.mem_append]
        exact .inr (.inl (mem_weightsAll (d := D i) (List.mem_map.2 ⟨i, List.mem_range.2 hi, rfl⟩) hkk))
    haveI : Inhabited Nd1 := ⟨⟨none, 0, []⟩⟩
    obtain ⟨f, hfp⟩ := Deep.choose_lt each
    refine ⟨(List.range len0).map f, by simp, ⟨fun hne => ?_, fun i hi => ?_⟩, hl, fun i hi => ?_, .inr ⟨_, _, hd.1, by simp; omega⟩⟩
    · have hpos : 0 < len0 := by
        rcases Nat.eq_zero_or_pos len0 with h | h
        · exact absurd (by simp [h]) hne
        · exact h
      obtain ⟨b, o, spot⟩ := x
      have hc0 := (hx 0 (by omega)).1
      have hspot : spot = none := by simpa [Addr.add] using World.cell?_spot hc0
      subst hspot
      refine ⟨b, o, rfl, fun j hj => ?_⟩
      have hj' : j < len0 := by simpa using hj
      obtain ⟨h1, _⟩ := hx j (by omega)
      have hplain : ∀ q, (⟨b, o, none⟩ : Addr).add q = ⟨b, o + q, none⟩ := fun q => by unfold Addr.add; split <;> simp_all
      rw [hplain] at h1
      simp only [List.getElem_map, List.getElem_range]
      rw [← (hfp j hj').1]
      exact h1
    · obtain ⟨j, hj, rfl⟩ := List.mem_map.1 hi
      exact (hfp j (List.mem_range.1 hj)).2.1
    · obtain ⟨j, hj, rfl⟩ := List.mem_map.1 hi
      exact (hfp j (List.mem_range.1 hj)).2.2

theorem reach_prof {H : Type} {ts : List TypeId} {ds : List (DataW H)} (hsz : (DataW.weightsEach Try.prog ts ds).all (· ≤ reachBytes) = true) {j : Nat} {d0 : DataW H} {cap0 : Nat} (ht : ts[j]? = some 23) (hd : ds[j]? = some d0)
    (h : (d0 = .nil ∧ cap0 = 0) ∨ ∃ elems spare, d0 = .slice elems spare ∧ elems.length + spare.length = cap0) : cap0 * 24 ≤ 140737488351232 := by
  rcases h with ⟨_, rfl⟩ | ⟨elems, spare, rfl, rfl⟩
  · omega
  · have := sized_slice hsz (j := j) (t := 23) (e := 38) ht hd Try.underlying23
    rw [bytes38] at this
    have h2 : reachBytes = 140737488351232 := rfl
    omega

theorem reach_each {H : Type} {ts : List TypeId} {ds : List (DataW H)} (hsz : (DataW.weightsEach Try.prog ts ds).all (· ≤ reachBytes) = true) {j : Nat} {d0 : DataW H} (ht : ts[j]? = some 23) (hd : ds[j]? = some d0) {L : List Nd1}
    (h : ∀ x ∈ L, x.C.length = 0 ∨ ∃ k ∈ d0.weights Try.prog 23, x.C.length ≤ k) : ∀ x ∈ L, x.C.length ≤ 140737488351232 := by
  intro x hx
  rcases h x hx with h1 | ⟨k, hk, hle⟩
  · omega
  · have h3 := List.all_eq_true.1 hsz k (DataW.weights_mem_each ht hd k hk)
    have h2 : reachBytes = 140737488351232 := rfl
    simp only [decide_eq_true_eq] at h3
    omega

theorem struct27 : ∃ f0 f1 f2 f3 : Field, Try.prog.underlying 27 = some (.struct #[f0, f1, f2, f3]) ∧ f0.offset = 0 ∧ f1.offset = 1 ∧ f2.offset = 2 ∧ f3.offset = 3 ∧ f0.type = 25 ∧ f1.type = 3 ∧ f2.type = 2 ∧ f3.type = 2 :=
  ⟨_, _, _, _, Try.underlying27, rfl, rfl, rfl, rfl, rfl, rfl, rfl, rfl⟩

theorem len4 {α : Type} : ∀ {l : List α}, l.length = 4 → ∃ a b c d, l = [a, b, c, d]
  | [a, b, c, d], _ => ⟨a, b, c, d, rfl⟩
theorem len3 {α : Type} : ∀ {l : List α}, l.length = 3 → ∃ a b c, l = [a, b, c]
  | [a, b, c], _ => ⟨a, b, c, rfl⟩
theorem len6 {α : Type} : ∀ {l : List α}, l.length = 6 → ∃ a b c d e f, l = [a, b, c, d, e, f]
  | [a, b, c, d, e, f], _ => ⟨a, b, c, d, e, f, rfl⟩

set_option maxRecDepth 100000 in
theorem span_arg {H : Type} {enc : TypeId × Value → H} {W : World} {base base2 : Nat} {V : Value} {d0 : DataW H} {p0 : List MemPlace} (hv : Value.okWide Try.prog W .any base2 27 V)
    (h0 : DataW.Trod enc Try.prog W base (fun _ => true) true 27 V d0 p0) :
    ∃ (on : Nat) (c p q : Int), V = .agg #[.int .u32 (on : Int), .int .i64 c, .int .i64 p, .int .i64 q] ∧ on < 4294967296 := by
  obtain ⟨f0, f1, f2, f3, he, o0, o1, o2, o3, t0, t1, t2, t3⟩ := struct27
  have c3 : Try.prog.cellsOf 3 = 1 := by kernel_rfl
  have c2 : Try.prog.cellsOf 2 = 1 := by kernel_rfl
  have c25 : Try.prog.cellsOf 25 = 1 := by kernel_rfl
  have c27 : Try.prog.cellsOf 27 = 4 := by kernel_rfl
  obtain ⟨cs, rfl, hsz⟩ := okWide_struct he hv
  rw [c27] at hsz
  obtain ⟨fuel, hf⟩ := h0
  obtain ⟨xs, k, hk, hxy, _, hxl, hfs⟩ := DataW.trod_struct he hf
  obtain ⟨y0, y1, y2, y3, rfl⟩ := len4 (l := xs) (by simpa using hxl)
  obtain ⟨l⟩ := cs
  obtain ⟨v0, v1, v2, v3, rfl⟩ := len4 (l := l) (by simpa using hsz)
  have g0 := hfs 0 f0 rfl
  have g1 := hfs 1 f1 rfl
  have g2 := hfs 2 f2 rfl
  have g3 := hfs 3 f3 rfl
  simp [o0, o1, o2, o3, t0, t1, t2, t3, c3, c2, c25, Value.cells] at g0 g1 g2 g3
  obtain ⟨k0, hk0, rfl⟩ := set_cell g0
  obtain ⟨k1, rfl, _⟩ := int_cell3 g1
  obtain ⟨k2, rfl, _⟩ := int_cell2 g2
  obtain ⟨k3, rfl, _⟩ := int_cell2 g3
  exact ⟨k0, k1, k2, k3, rfl, hk0⟩

theorem struct51 : ∃ f0 f1 f2 : Field, Try.prog.underlying 51 = some (.struct #[f0, f1, f2]) ∧ f0.offset = 0 ∧ f1.offset = 1 ∧ f2.offset = 2 ∧ f0.type = 25 ∧ f1.type = 2 ∧ f2.type = 2 :=
  ⟨_, _, _, Try.underlying51, rfl, rfl, rfl, rfl, rfl, rfl⟩

theorem blocks_arg {H : Type} {enc : TypeId × Value → H} {W : World} {base : Nat} {a0 : Option Addr} {len0 cap0 : Nat} {d0 : DataW H} {p0 : List MemPlace}
    (h0 : DataW.Trod enc Try.prog W base (fun _ => true) true 42 (.slice a0 len0 cap0) d0 p0) : ∃ B : List BlkP, B.length = len0 ∧ BAt W a0 B ∧ (∀ b ∈ B, b.nodes < 4294967296) ∧ len0 ≤ cap0 := by
  obtain ⟨fuel, hf⟩ := h0
  have c2 : Try.prog.cellsOf 2 = 1 := by kernel_rfl
  have c25 : Try.prog.cellsOf 25 = 1 := by kernel_rfl
  have ce : Try.prog.cellsOf 51 = 3 := by kernel_rfl
  rcases Deep.open_slice Try.underlying42 hf with ⟨hcs, _⟩ | ⟨x, len, cap, m, n, D, Pl, hcs, _, hl, hm, hmm, hd, hx⟩
  · simp [Value.cells] at hcs
    obtain ⟨rfl, rfl, rfl⟩ := hcs
    exact ⟨[], rfl, BAt.nil _ _, (fun b h => by cases h), Nat.le_refl _⟩
  · simp [Value.cells] at hcs
    obtain ⟨rfl, rfl, rfl⟩ := hcs
    have hmc : m = cap0 := by rw [hmm]; rfl
    obtain ⟨f0, f1, f2, he, o0, o1, o2, t0, t1, t2⟩ := struct51
    have each : ∀ i, i < len0 → ∃ o : BlkP, (W.cell? (x.add (i * 3)) = some (.int .u32 (o.nodes : Int)) ∧ W.cell? (x.add (i * 3 + 1)) = some (.int .i64 o.f) ∧ W.cell? (x.add (i * 3 + 2)) = some (.int .i64 o.t)) ∧ o.nodes < 4294967296 := fun i hi => by
      obtain ⟨cs', h1, h2⟩ := hx i (by omega)
      rw [ce] at h1
      obtain ⟨_, hlen, hcell⟩ := World.cells?_some h1
      obtain ⟨xs, k, hk, hxy, _, hxl, hfs⟩ := DataW.trod_struct he h2
      obtain ⟨y0, y1, y2, rfl⟩ := len3 (l := xs) (by simpa using hxl)
      obtain ⟨v0, v1, v2, rfl⟩ := len3 (l := cs') (by simpa using hlen)
      have g0 := hfs 0 f0 rfl
      have g1 := hfs 1 f1 rfl
      have g2 := hfs 2 f2 rfl
      simp [o0, o1, o2, t0, t1, t2, c2, c25] at g0 g1 g2
      have e0 := hcell 0 (by omega)
      have e1 := hcell 1 (by omega)
      have e2 := hcell 2 (by omega)
      rw [Deep.add_add] at e0 e1 e2
      obtain ⟨k0, hk0, rfl⟩ := set_cell g0
      obtain ⟨k1, rfl, _⟩ := int_cell2 g1
      obtain ⟨k2, rfl, _⟩ := int_cell2 g2
      exact ⟨⟨k0, k1, k2⟩, ⟨by simpa using e0, by simpa using e1, by simpa using e2⟩, hk0⟩
    haveI : Inhabited BlkP := ⟨⟨0, 0, 0⟩⟩
    obtain ⟨f, hfp⟩ := Deep.choose_lt each
    refine ⟨(List.range len0).map f, by simp, fun hne => ?_, fun t ht => ?_, hl⟩
    · have hpos : 0 < len0 := by
        rcases Nat.eq_zero_or_pos len0 with h | h
        · exact absurd (by simp [h]) hne
        · exact h
      obtain ⟨b, o, spot⟩ := x
      have hc0 := (hfp 0 hpos).1.1
      have hspot : spot = none := by simpa [Addr.add] using World.cell?_spot hc0
      subst hspot
      have hplain : ∀ q, (⟨b, o, none⟩ : Addr).add q = ⟨b, o + q, none⟩ := fun q => by unfold Addr.add; split <;> simp_all
      refine ⟨b, o, rfl, fun j hj => ?_⟩
      have hlen : ((List.range len0).map f).length = len0 := by simp
      have hj' : j < len0 * 3 := by rw [flat_len bc 3 (fun _ => rfl), hlen] at hj; exact hj
      have hjd : j / 3 < ((List.range len0).map f).length := by rw [hlen]; omega
      have hg := flat_get bc 3 (fun _ => rfl) ((List.range len0).map f) (j / 3) (j % 3) hjd (by omega)
      have e : j / 3 * 3 + j % 3 = j := by omega
      rw [e, List.getElem?_eq_getElem hj] at hg
      have ef : ((List.range len0).map f)[j / 3] = f (j / 3) := by simp
      rw [ef] at hg
      obtain ⟨h1, h2, h3⟩ := (hfp (j / 3) (by omega)).1
      rw [hplain] at h1 h2 h3
      have hm3 : j % 3 = 0 ∨ j % 3 = 1 ∨ j % 3 = 2 := by omega
      rcases hm3 with hz | hz | hz
      · rw [hz] at hg e
        have hv : (((List.range len0).map f).flatMap bc)[j] = .int .u32 ((f (j / 3)).nodes : Int) := by simpa [bc] using hg
        have e2 : o + j = o + (j / 3 * 3) := by omega
        rw [hv, e2]
        exact h1
      · rw [hz] at hg e
        have hv : (((List.range len0).map f).flatMap bc)[j] = .int .i64 (f (j / 3)).f := by simpa [bc] using hg
        have e2 : o + j = o + (j / 3 * 3 + 1) := by omega
        rw [hv, e2]
        exact h2
      · rw [hz] at hg e
        have hv : (((List.range len0).map f).flatMap bc)[j] = .int .i64 (f (j / 3)).t := by simpa [bc] using hg
        have e2 : o + j = o + (j / 3 * 3 + 2) := by omega
        rw [hv, e2]
        exact h3
    · obtain ⟨j, hj, rfl⟩ := List.mem_map.1 ht
      exact (hfp j (List.mem_range.1 hj)).2

theorem struct44 : ∃ f0 f1 f2 f3 f4 f5 : Field, Try.prog.underlying 44 = some (.struct #[f0, f1, f2, f3, f4, f5]) ∧ f0.offset = 0 ∧ f1.offset = 1 ∧ f2.offset = 2 ∧ f3.offset = 3 ∧ f4.offset = 4 ∧ f5.offset = 5 ∧ f0.type = 3 ∧ f1.type = 3 ∧ f2.type = 2 ∧ f3.type = 2 ∧ f4.type = 25 ∧ f5.type = 42 :=
  ⟨_, _, _, _, _, _, Try.underlying44, rfl, rfl, rfl, rfl, rfl, rfl, rfl, rfl, rfl, rfl, rfl, rfl⟩

theorem bytes51 : Try.prog.bytesOf 51 = 24 := by kernel_rfl

set_option maxRecDepth 100000 in
theorem ask_arg {H : Type} {enc : TypeId × Value → H} {W : World} {base base2 : Nat} {V : Value} {d0 : DataW H} {p0 : List MemPlace} (hv : Value.okWide Try.prog W .any base2 44 V)
    (h0 : DataW.Trod enc Try.prog W base (fun _ => true) true 44 V d0 p0) :
    ∃ (A : AskP) (ba : Option Addr) (bc0 : Nat), V = A.val ba A.bs.length bc0 ∧ BAt W ba A.bs ∧ A.nodes < 4294967296 ∧ (∀ b ∈ A.bs, b.nodes < 4294967296) ∧ A.bs.length ≤ bc0 ∧ (∀ x ∈ [A.count, A.cores, A.limit, A.fr], (Lit.int .i64 x).wf = true) ∧ (A.bs.length = 0 ∨ ∃ k ∈ d0.weights Try.prog 44, A.bs.length ≤ k) := by
  obtain ⟨f0, f1, f2, f3, f4, f5, he, o0, o1, o2, o3, o4, o5, t0, t1, t2, t3, t4, t5⟩ := struct44
  have c3 : Try.prog.cellsOf 3 = 1 := by kernel_rfl
  have c2 : Try.prog.cellsOf 2 = 1 := by kernel_rfl
  have c25 : Try.prog.cellsOf 25 = 1 := by kernel_rfl
  have c42 : Try.prog.cellsOf 42 = 1 := by kernel_rfl
  have c44 : Try.prog.cellsOf 44 = 6 := by kernel_rfl
  obtain ⟨cs, rfl, hsz⟩ := okWide_struct he hv
  rw [c44] at hsz
  obtain ⟨fuel, hf⟩ := h0
  obtain ⟨xs, k, hk, hxy, _, hxl, hfs⟩ := DataW.trod_struct he hf
  obtain ⟨y0, y1, y2, y3, y4, y5, rfl⟩ := len6 (l := xs) (by simpa using hxl)
  obtain ⟨l⟩ := cs
  obtain ⟨v0, v1, v2, v3, v4, v5, rfl⟩ := len6 (l := l) (by simpa using hsz)
  have g0 := hfs 0 f0 rfl
  have g1 := hfs 1 f1 rfl
  have g2 := hfs 2 f2 rfl
  have g3 := hfs 3 f3 rfl
  have g4 := hfs 4 f4 rfl
  have g5 := hfs 5 f5 rfl
  simp [o0, o1, o2, o3, o4, o5, t0, t1, t2, t3, t4, t5, c3, c2, c25, c42, Value.cells] at g0 g1 g2 g3 g4 g5
  obtain ⟨k0, rfl, w0⟩ := int_cell3 g0
  obtain ⟨k1, rfl, w1⟩ := int_cell3 g1
  obtain ⟨k2, rfl, w2⟩ := int_cell2 g2
  obtain ⟨k3, rfl, w3⟩ := int_cell2 g3
  obtain ⟨k4, hk4, rfl⟩ := set_cell g4
  have hV : (∃ a len cap, v5 = .slice a len cap ∧ ((a = none ∧ len = 0 ∧ cap = 0) ∨ ∃ elems spare, y5.1 = .slice elems spare ∧ elems.length + spare.length = cap)) := by
    rcases Deep.open_slice Try.underlying42 g5 with ⟨hcs, _⟩ | ⟨x, len, cap, m, n, D, Pl, hcs, _, hl, hm, hmm, hd, _⟩
    · exact ⟨none, 0, 0, by simpa using hcs, .inl ⟨rfl, rfl, rfl⟩⟩
    · have hmc : m = cap := by rw [hmm]; rfl
      exact ⟨some x, len, cap, by simpa using hcs, .inr ⟨_, _, by rw [hd], by simp; omega⟩⟩
  obtain ⟨a, len, cap, rfl, hw5⟩ := hV
  obtain ⟨B, hB, hat, hbs, hlc⟩ := blocks_arg (H := H) (d0 := y5.1) (p0 := y5.2) ⟨_, g5⟩
  refine ⟨⟨k0, k1, k2, k3, k4, B⟩, a, cap, by rw [← hB]; rfl, hat, hk4, hbs, by show B.length ≤ cap; omega, ?_, ?_⟩
  · intro x hx
    simp only [List.mem_cons, List.not_mem_nil, or_false] at hx
    rcases hx with rfl | rfl | rfl | rfl
    · exact w0
    · exact w1
    · exact w2
    · exact w3
  · rcases hw5 with ⟨_, h1, _⟩ | ⟨elems, spare, h1, h2⟩
    · left
      show B.length = 0
      omega
    · right
      refine ⟨(elems.length + spare.length) * Try.prog.bytesOf 51, ?_, ?_⟩
      · simp only [Prod.mk.injEq] at hxy
        rw [hxy.1]
        simp only [DataW.weights, he, List.map_cons, List.map_nil, DataW.weightsEach, List.mem_append, t5, h1, Try.underlying42]
        simp
      · show B.length ≤ _
        rw [bytes51]
        omega

theorem reach_ask {H : Type} {ts : List TypeId} {ds : List (DataW H)} (hsz : (DataW.weightsEach Try.prog ts ds).all (· ≤ reachBytes) = true) {j : Nat} {d0 : DataW H} (ht : ts[j]? = some 44) (hd : ds[j]? = some d0) {n : Nat}
    (h : n = 0 ∨ ∃ k ∈ d0.weights Try.prog 44, n ≤ k) : n ≤ 140737488351232 := by
  rcases h with h1 | ⟨k, hk, hle⟩
  · omega
  · have h3 := List.all_eq_true.1 hsz k (DataW.weights_mem_each ht hd k hk)
    have h2 : reachBytes = 140737488351232 := rfl
    simp only [decide_eq_true_eq] at h3
    omega

end Go.Proofs.Yticlpjpbjgfgmaa
