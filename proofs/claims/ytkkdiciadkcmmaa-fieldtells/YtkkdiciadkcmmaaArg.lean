/- What a []byte and a []api.Field among the arguments are. -/
import Derived.Test.YtkkdiciadkcmmaaAwake
import Derived.WalkKit
import Derived.ProofKit
import Derived.OpenShut
import Derived.ShutString
import Derived.ChangeOld
import Derived.Below
import Derived.SizedLaws
import Derived.SliceStrings
import Derived.Deep.Slices
namespace Go.Proofs.Ytkkdiciadkcmmaa
open Go.ChangeShapes Go.WideShapes Go.ChangeAt Go.RowKit

theorem bytes5 : Try.prog.bytesOf 5 = 1 := by kernel_rfl

theorem bytes_arg {H : Type} {enc : TypeId × Value → H} {W : World} {base : Nat} {a0 : Option Addr} {len0 cap0 : Nat} {d0 : DataW H} {p0 : List MemPlace}
    (h0 : DataW.Trod enc Try.prog W base (fun _ => true) true 22 (.slice a0 len0 cap0) d0 p0) :
    ∃ l : List UInt8, l.length = len0 ∧ At W a0 l ∧ len0 ≤ cap0 ∧ ((d0 = .nil ∧ cap0 = 0) ∨ ∃ elems spare, d0 = .slice elems spare ∧ elems.length + spare.length = cap0) := by
  obtain ⟨fuel, hf⟩ := h0
  rcases open_ints Try.underlying22 Try.underlying5 (by kernel_rfl) hf with ⟨hcs, hx⟩ | ⟨x, n, c, zs, hcs, _, hl, hm, hz, hx, hcell, hwz⟩
  · simp [Value.cells] at hcs
    obtain ⟨rfl, rfl, rfl⟩ := hcs
    simp only [Prod.mk.injEq] at hx
    exact ⟨[], rfl, fun h => absurd rfl h, Nat.le_refl _, .inl ⟨hx.1, rfl⟩⟩
  · simp [Value.cells] at hcs
    obtain ⟨rfl, rfl, rfl⟩ := hcs
    have hz' : zs.length = cap0 := by simpa using hz
    simp only [Prod.mk.injEq] at hx
    refine ⟨(zs.take len0).map fun n => UInt8.ofNat n.toNat, by simp; omega, ?_, hl, .inr ⟨_, _, hx.1, by simp [lits]; omega⟩⟩
    intro hne
    have hpos : 0 < len0 := by
      rcases Nat.eq_zero_or_pos len0 with h | h
      · exact absurd (by simp [h]) hne
      · exact h
    obtain ⟨b, o, spot⟩ := x
    have hc0 := hcell 0 (by omega)
    have hspot : spot = none := by simpa [Addr.add] using World.cell?_spot hc0
    subst hspot
    refine ⟨b, o, rfl, fun i hi => ?_⟩
    have hi' : i < len0 := by simp at hi; omega
    have hplain : (⟨b, o, none⟩ : Addr).add i = ⟨b, o + i, none⟩ := by unfold Addr.add; split <;> simp_all
    have hc := hcell i (by omega)
    rw [hplain] at hc
    rw [hc]
    have hw := bounds_u8 (hwz (zs[i]'(by omega)) (List.getElem_mem _))
    have e1 : zs.getD i 0 = zs[i]'(by omega) := by simp [List.getD, List.getElem?_eq_getElem (show i < zs.length by omega)]
    rw [e1]
    simp only [List.getElem_map, List.getElem_take, UInt8.toNat_ofNat']
    congr 2
    rw [Nat.mod_eq_of_lt (by omega)]
    omega

theorem reach_arg {H : Type} {ts : List TypeId} {ds : List (DataW H)} (hsz : (DataW.weightsEach Try.prog ts ds).all (· ≤ reachBytes) = true) {j : Nat} {d0 : DataW H} {cap0 : Nat} (ht : ts[j]? = some 22) (hd : ds[j]? = some d0)
    (h : (d0 = .nil ∧ cap0 = 0) ∨ ∃ elems spare, d0 = .slice elems spare ∧ elems.length + spare.length = cap0) : cap0 ≤ 140737488351232 := by
  rcases h with ⟨_, rfl⟩ | ⟨elems, spare, rfl, rfl⟩
  · omega
  · have := sized_slice hsz (j := j) (t := 22) (e := 5) ht hd Try.underlying22
    rw [bytes5, Nat.mul_one] at this
    exact this

theorem byte_cell {H : Type} {enc : TypeId × Value → H} {W : World} {base n : Nat} {V : Value} {y : DataW H × List MemPlace}
    (h : DataW.trod enc Try.prog W base (fun _ => true) true n 5 [V] = some y) : ∃ k : UInt8, V = .int .u8 (k.toNat : Int) := by
  obtain ⟨m, hm, _, hw⟩ := DataW.trod_int Try.underlying5 h
  have hb := bounds_u8 hw
  refine ⟨UInt8.ofNat m.toNat, ?_⟩
  have e : V = .int .u8 m := by simpa using hm
  rw [e]
  congr 1
  simp
  omega

theorem kind_cell {H : Type} {enc : TypeId × Value → H} {W : World} {base n : Nat} {V : Value} {y : DataW H × List MemPlace}
    (h : DataW.trod enc Try.prog W base (fun _ => true) true n 26 [V] = some y) : ∃ k : UInt8, V = .int .u8 (k.toNat : Int) := by
  obtain ⟨m, hm, _, hw⟩ := DataW.trod_int Try.underlying26 h
  have hb := bounds_u8 hw
  refine ⟨UInt8.ofNat m.toNat, ?_⟩
  have e : V = .int .u8 m := by simpa using hm
  rw [e]
  congr 1
  simp
  omega

theorem num_cell {H : Type} {enc : TypeId × Value → H} {W : World} {base n : Nat} {V : Value} {y : DataW H × List MemPlace}
    (h : DataW.trod enc Try.prog W base (fun _ => true) true n 2 [V] = some y) : ∃ k : Int, V = .int .i64 k ∧ In64 k := by
  obtain ⟨m, hm, _, hw⟩ := DataW.trod_int Try.underlying2 h
  have hb := bounds_i64 hw
  refine ⟨m, by simpa using hm, ?_⟩
  unfold In64
  omega

theorem str_cell {H : Type} {enc : TypeId × Value → H} {W : World} {base n : Nat} {V : Value} {y : DataW H × List MemPlace}
    (h : DataW.trod enc Try.prog W base (fun _ => true) true n 9 [V] = some y) : ∃ s : ByteArray, V = .string s := by
  obtain ⟨s, hs, _, _⟩ := DataW.trod_string Try.underlying9 h
  exact ⟨s, by simpa using hs⟩

theorem plain_add (b o q : Nat) : (⟨b, o, none⟩ : Addr).add q = ⟨b, o + q, none⟩ := by unfold Addr.add; split <;> simp_all

theorem ns_cell {H : Type} {enc : TypeId × Value → H} {W : World} {base n : Nat} {V : Value} {y : DataW H × List MemPlace}
    (h : DataW.trod enc Try.prog W base (fun _ => true) true n 27 [V] = some y) : ∃ a c, ∃ ns : List Int, V = .slice a ns.length c ∧ NAt W a ns ∧ (∀ x ∈ ns, In64 x) ∧ ns.length ≤ 9223372036854775807 := by
  rcases open_ints Try.underlying27 Try.underlying2 (by kernel_rfl) h with ⟨hcs, _⟩ | ⟨x, m, c, zs, hcs, _, hl, hm, hz, _, hcell, hwz⟩
  · exact ⟨none, 0, [], by simpa using hcs, CAt.nil _ _, fun x hx => absurd hx (by simp), by simp⟩
  · have hz' : zs.length = c := by simpa using hz
    have hlen : (zs.take m).length = m := by rw [List.length_take]; omega
    refine ⟨some x, c, zs.take m, by rw [hlen]; simpa using hcs, ?_, fun z hz2 => ?_, ?_⟩
    · intro hne
      have hpos : 0 < m := by
        rcases Nat.eq_zero_or_pos m with h | h
        · exact absurd (by simp [h, nvals]) hne
        · exact h
      obtain ⟨b, o, spot⟩ := x
      have hc0 := hcell 0 (by omega)
      have hspot : spot = none := by simpa [Addr.add] using World.cell?_spot hc0
      subst hspot
      refine ⟨b, o, rfl, fun i hi => ?_⟩
      rw [nvals_len, hlen] at hi
      have hc := hcell i (by omega)
      rw [plain_add] at hc
      rw [hc, nvals_get]
      simp [List.getD, List.getElem?_eq_getElem (show i < zs.length by omega)]
    · have hb := bounds_i64 (hwz z (List.mem_of_mem_take hz2))
      unfold In64
      omega
    · rw [hlen]; unfold maxLen at hm; omega

theorem ts_cell {H : Type} {enc : TypeId × Value → H} {W : World} {base n : Nat} {V : Value} {y : DataW H × List MemPlace}
    (h : DataW.trod enc Try.prog W base (fun _ => true) true n 28 [V] = some y) : ∃ a c, ∃ ts : List ByteArray, V = .slice a ts.length c ∧ TAt W a ts ∧ ts.length ≤ 9223372036854775807 := by
  rcases open_strings Try.underlying28 Try.underlying9 (by kernel_rfl) h with ⟨hcs, _⟩ | ⟨x, m, c, zs, hcs, _, hl, hm, hz, _, hcell, _⟩
  · exact ⟨none, 0, [], by simpa using hcs, CAt.nil _ _, by simp⟩
  · have hz' : zs.length = c := by simpa using hz
    have hlen : (zs.take m).length = m := by rw [List.length_take]; omega
    refine ⟨some x, c, zs.take m, by rw [hlen]; simpa using hcs, ?_, ?_⟩
    · intro hne
      have hpos : 0 < m := by
        rcases Nat.eq_zero_or_pos m with h | h
        · exact absurd (by simp [h, tvals]) hne
        · exact h
      obtain ⟨b, o, spot⟩ := x
      have hc0 := hcell 0 (by omega)
      have hspot : spot = none := by simpa [Addr.add] using World.cell?_spot hc0
      subst hspot
      refine ⟨b, o, rfl, fun i hi => ?_⟩
      rw [tvals_len, hlen] at hi
      have hc := hcell i (by omega)
      rw [plain_add] at hc
      rw [hc, tvals_get]
      simp [List.getD, List.getElem?_eq_getElem (show i < zs.length by omega)]
    · rw [hlen]; unfold maxLen at hm; omega

theorem cat_of_six {w : World} {b o : Nat} (its : List It) (h : ∀ j (hj : j < its.length), Six w b (o + j * 6) its[j]) : CAt w (some ⟨b, o, none⟩) (its.flatMap It.cells) := by
  refine fun _ => ⟨b, o, rfl, fun i hi => ?_⟩
  rw [cells_len] at hi
  have hj : i / 6 < its.length := by omega
  have hk : i % 6 < 6 := Nat.mod_lt _ (by omega)
  have e : i = i / 6 * 6 + i % 6 := by omega
  have hg := cells_get its (i / 6) (i % 6) hj hk
  rw [← e] at hg
  have h6 := h (i / 6) hj
  rw [List.getElem?_eq_getElem (by rw [cells_len]; exact hi)] at hg
  rw [hg, show o + i = o + i / 6 * 6 + i % 6 by omega]
  have hcase : i % 6 = 0 ∨ i % 6 = 1 ∨ i % 6 = 2 ∨ i % 6 = 3 ∨ i % 6 = 4 ∨ i % 6 = 5 := by omega
  rcases hcase with h | h | h | h | h | h <;> rw [h]
  · exact h6.c0
  · exact h6.c1
  · exact h6.c2
  · exact h6.c3
  · exact h6.c4
  · exact h6.c5

theorem struct30 : ∃ f0 f1 f2 f3 f4 f5 : Field, Try.prog.underlying 30 = some (.struct #[f0, f1, f2, f3, f4, f5]) ∧ f0.offset = 0 ∧ f1.offset = 1 ∧ f2.offset = 2 ∧ f3.offset = 3 ∧ f4.offset = 4 ∧ f5.offset = 5 ∧ f0.type = 5 ∧ f1.type = 26 ∧ f2.type = 2 ∧ f3.type = 9 ∧ f4.type = 27 ∧ f5.type = 28 :=
  ⟨_, _, _, _, _, _, Try.underlying30, rfl, rfl, rfl, rfl, rfl, rfl, rfl, rfl, rfl, rfl, rfl, rfl⟩

theorem fields_arg {H : Type} {enc : TypeId × Value → H} {W : World} {base : Nat} {a0 : Option Addr} {len0 cap0 : Nat} {d0 : DataW H} {p0 : List MemPlace}
    (h0 : DataW.Trod enc Try.prog W base (fun _ => true) true 31 (.slice a0 len0 cap0) d0 p0) : (∃ its : List It, its.length = len0 ∧ FAt W a0 its ∧ ∀ i ∈ its, Short i) ∧ len0 ≤ cap0 ∧ cap0 ≤ 9223372036854775807 := by
  obtain ⟨fuel, hf⟩ := h0
  obtain ⟨f0, f1, f2, f3, f4, f5, hu, o0, o1, o2, o3, o4, o5, t0, t1, t2, t3, t4, t5⟩ := struct30
  have ce : Try.prog.cellsOf 30 = 6 := by kernel_rfl
  have q5 : Try.prog.cellsOf 5 = 1 := by kernel_rfl
  have q26 : Try.prog.cellsOf 26 = 1 := by kernel_rfl
  have q2 : Try.prog.cellsOf 2 = 1 := by kernel_rfl
  have q9 : Try.prog.cellsOf 9 = 1 := by kernel_rfl
  have q27 : Try.prog.cellsOf 27 = 1 := by kernel_rfl
  have q28 : Try.prog.cellsOf 28 = 1 := by kernel_rfl
  rcases Deep.open_slice Try.underlying31 hf with ⟨hcs, _⟩ | ⟨x, len, cap, m, n, D, Pl, hcs, _, hl, hm, hmm, _, hx⟩
  · simp [Value.cells] at hcs
    obtain ⟨rfl, rfl, rfl⟩ := hcs
    exact ⟨⟨[], rfl, ⟨CAt.nil _ _, by simp⟩, by simp⟩, Nat.le_refl _, by omega⟩
  · simp [Value.cells] at hcs
    obtain ⟨rfl, rfl, rfl⟩ := hcs
    have hmc : m = cap0 := by rw [hmm]; rfl
    refine ⟨?_, hl, by unfold maxLen at hm; omega⟩
    have each : ∀ i, i < len0 → ∃ it : It, (W.cell? (x.add (i * 6)) = some (.int .u8 (it.fd.tag.toNat : Int)) ∧ W.cell? (x.add (i * 6 + 1)) = some (.int .u8 (it.fd.kind.toNat : Int)) ∧ W.cell? (x.add (i * 6 + 2)) = some (.int .i64 it.fd.n) ∧ W.cell? (x.add (i * 6 + 3)) = some (.string it.fd.text) ∧ W.cell? (x.add (i * 6 + 4)) = some (.slice it.na it.fd.ns.length it.nc) ∧ W.cell? (x.add (i * 6 + 5)) = some (.slice it.ta it.fd.texts.length it.tc)) ∧ ItAt W it ∧ Short it := by
      intro i hi
      obtain ⟨cs', h1, h2⟩ := hx i (by omega)
      rw [ce] at h1
      obtain ⟨_, hlen, hcell⟩ := World.cells?_some h1
      obtain ⟨xs, k, _, _, _, hxl, hfl⟩ := DataW.trod_struct hu h2
      match xs, hxl, cs', hlen with
      | [y0, y1, y2, y3, y4, y5], _, [v0, v1, v2, v3, v4, v5], _ =>
        have g0 := hfl 0 f0 rfl
        have g1 := hfl 1 f1 rfl
        have g2 := hfl 2 f2 rfl
        have g3 := hfl 3 f3 rfl
        have g4 := hfl 4 f4 rfl
        have g5 := hfl 5 f5 rfl
        simp [o0, t0, q5] at g0
        simp [o1, t1, q26] at g1
        simp [o2, t2, q2] at g2
        simp [o3, t3, q9] at g3
        simp [o4, t4, q27] at g4
        simp [o5, t5, q28] at g5
        have e0 := hcell 0 (by omega)
        have e1 := hcell 1 (by omega)
        have e2 := hcell 2 (by omega)
        have e3 := hcell 3 (by omega)
        have e4 := hcell 4 (by omega)
        have e5 := hcell 5 (by omega)
        rw [Deep.add_add] at e0 e1 e2 e3 e4 e5
        obtain ⟨tg, rfl⟩ := byte_cell g0
        obtain ⟨kd, rfl⟩ := kind_cell g1
        obtain ⟨nn, rfl, hnn⟩ := num_cell g2
        obtain ⟨ss, rfl⟩ := str_cell g3
        obtain ⟨na, nc, ns, rfl, hna, hin, hnl⟩ := ns_cell g4
        obtain ⟨ta, tc, ts, rfl, hta, htl⟩ := ts_cell g5
        exact ⟨⟨⟨tg, kd, nn, ss, ns, ts⟩, na, nc, ta, tc⟩, ⟨by simpa using e0, by simpa using e1, by simpa using e2, by simpa using e3, by simpa using e4, by simpa using e5⟩, ⟨hna, hta, ⟨hnn, hin⟩⟩, ⟨hnl, htl⟩⟩
    haveI : Inhabited It := ⟨⟨⟨0, 0, 0, ByteArray.empty, [], []⟩, none, 0, none, 0⟩⟩
    obtain ⟨f, hfp⟩ := Deep.choose_lt each
    refine ⟨(List.range len0).map f, by simp, ⟨fun hne => ?_, fun i hi => ?_⟩, fun i hi => ?_⟩
    · have hpos : 0 < len0 := by
        rcases Nat.eq_zero_or_pos len0 with h | h
        · exact absurd (by simp [h]) hne
        · exact h
      obtain ⟨b, o, spot⟩ := x
      have hc0 := (hfp 0 hpos).1.1
      have hspot : spot = none := by simpa [Addr.add] using World.cell?_spot hc0
      subst hspot
      refine cat_of_six _ (fun j hj => ?_) hne
      have hj' : j < len0 := by simpa using hj
      obtain ⟨⟨k0, k1, k2, k3, k4, k5⟩, _, _⟩ := hfp j hj'
      rw [plain_add] at k0 k1 k2 k3 k4 k5
      simp only [List.getElem_map, List.getElem_range]
      exact ⟨k0, by rw [Nat.add_assoc]; exact k1, by rw [Nat.add_assoc]; exact k2, by rw [Nat.add_assoc]; exact k3, by rw [Nat.add_assoc]; exact k4, by rw [Nat.add_assoc]; exact k5⟩
    · obtain ⟨j, hj, rfl⟩ := List.mem_map.1 hi
      exact (hfp j (List.mem_range.1 hj)).2.1
    · obtain ⟨j, hj, rfl⟩ := List.mem_map.1 hi
      exact (hfp j (List.mem_range.1 hj)).2.2

end Go.Proofs.Ytkkdiciadkcmmaa
