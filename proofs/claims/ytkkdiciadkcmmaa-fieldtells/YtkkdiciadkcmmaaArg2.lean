/- A slice of fields as an argument, with the bounds of its lists. -/
import Derived.Test.YtkkdiciadkcmmaaArg
import Derived.Test.YtkkdiciadkcmmaaGet
import Derived.SizedLaws
namespace Go.Proofs.Ytkkdiciadkcmmaa
open Go.RowKit
open Go.ChangeShapes Go.WideShapes Go.ChangeAt

/-- All strings and slices of the datum are within the form's reach. -/
def Bd {H : Type} (t : TypeId) (d : DataW H) : Prop := ∀ n ∈ d.weights Try.prog t, n ≤ reachBytes

theorem Bd.of {H : Type} {ts : List TypeId} {ds : List (DataW H)} (hsz : (DataW.weightsEach Try.prog ts ds).all (· ≤ reachBytes) = true) {j : Nat} {t : TypeId} {d : DataW H} (ht : ts[j]? = some t) (hd : ds[j]? = some d) : Bd t d :=
  fun n hn => of_decide_eq_true (List.all_eq_true.1 hsz n (DataW.weights_mem_each ht hd n hn))

theorem wall_mem {H : Type} {e : TypeId} {d : DataW H} {n : Nat} (hn : n ∈ d.weights Try.prog e) : ∀ {l : List (DataW H)}, d ∈ l → n ∈ DataW.weightsAll Try.prog e l
  | x :: r, h => by
    simp only [DataW.weightsAll, List.mem_append]
    rcases List.mem_cons.1 h with rfl | h
    · exact Or.inl hn
    · exact Or.inr (wall_mem hn h)

theorem Bd.elems {H : Type} {t e : TypeId} {el sp : List (DataW H)} (hu : Try.prog.underlying t = some (.slice e)) (h : Bd t (.slice el sp)) : ∀ d ∈ el, Bd e d := fun d hd n hn => h n (by
  simp only [DataW.weights, hu, List.mem_cons, List.mem_append]
  exact Or.inr (Or.inl (wall_mem hn hd)))

theorem Bd.total {H : Type} {t e : TypeId} {el sp : List (DataW H)} (hu : Try.prog.underlying t = some (.slice e)) (h : Bd t (.slice el sp)) : (el.length + sp.length) * Try.prog.bytesOf e ≤ reachBytes := h _ (by
  simp only [DataW.weights, hu, List.mem_cons]
  exact Or.inl trivial)

theorem Bd.parts {H : Type} {t : TypeId} {fs : Array Field} {ps : List (DataW H)} (hu : Try.prog.underlying t = some (.struct fs)) (h : Bd t (.agg ps)) (i : Nat) (u : TypeId) (d : DataW H) (hf : (fs.toList.map (·.type))[i]? = some u) (hd : ps[i]? = some d) : Bd u d := fun n hn => h n (by
  simp only [DataW.weights, hu]
  exact DataW.weights_mem_each hf hd n hn)

theorem ns_cell2 {H : Type} {enc : TypeId × Value → H} {W : World} {base n : Nat} {V : Value} {y : DataW H × List MemPlace}
    (h : DataW.trod enc Try.prog W base (fun _ => true) true n 27 [V] = some y) (hbd : Bd 27 y.1) : ∃ a c, ∃ ns : List Int, V = .slice a ns.length c ∧ NAt W a ns ∧ (∀ x ∈ ns, In64 x) ∧ ns.length ≤ 9223372036854775807 ∧ ns.length * 8 ≤ 140737488355328 := by
  rcases open_ints Try.underlying27 Try.underlying2 (by kernel_rfl) h with ⟨hcs, _⟩ | ⟨x, m, c, zs, hcs, _, hl, hm, hz, hx, hcell, hwz⟩
  · exact ⟨none, 0, [], by simpa using hcs, CAt.nil _ _, fun x hx => absurd hx (by simp), by simp, by simp⟩
  · have hz' : zs.length = c := by simpa using hz
    have hlen : (zs.take m).length = m := by rw [List.length_take]; omega
    refine ⟨some x, c, zs.take m, by rw [hlen]; simpa using hcs, ?_, fun z hz2 => ?_, ?_, ?_⟩
    · intro hne
      have hpos : 0 < m := by
        rcases Nat.eq_zero_or_pos m with h | h
        · exact absurd (by simp [h, nvals]) hne
        · exact h
      obtain ⟨b, o, spot⟩ := x
      have hc0 := hcell 0 (by omega)
      have hspot : spot = none := by simpa [Addr.add] using World.cell?_spot hc0
      subst hspot
      refine ⟨b, o, rfl, fun i hi => ?_⟩
      rw [nvals_len, hlen] at hi
      have hc := hcell i (by omega)
      rw [plain_add] at hc
      rw [hc, nvals_get]
      simp [List.getD, List.getElem?_eq_getElem (show i < zs.length by omega)]
    · have hb := bounds_i64 (hwz z (List.mem_of_mem_take hz2))
      unfold In64
      omega
    · rw [hlen]; unfold maxLen at hm; omega
    · rw [hx] at hbd
      have ht := Bd.total Try.underlying27 hbd
      have by2 : Try.prog.bytesOf 2 = 8 := by kernel_rfl
      rw [by2] at ht
      unfold reachBytes at ht
      simp only [lits, List.length_map, List.length_take, List.length_drop] at ht
      rw [hlen]; omega

theorem ts_cell2 {H : Type} {enc : TypeId × Value → H} {W : World} {base n : Nat} {V : Value} {y : DataW H × List MemPlace}
    (h : DataW.trod enc Try.prog W base (fun _ => true) true n 28 [V] = some y) (hbd : Bd 28 y.1) : ∃ a c, ∃ ts : List ByteArray, V = .slice a ts.length c ∧ TAt W a ts ∧ ts.length ≤ 9223372036854775807 ∧ ts.length * 16 ≤ 140737488355328 := by
  rcases open_strings Try.underlying28 Try.underlying9 (by kernel_rfl) h with ⟨hcs, _⟩ | ⟨x, m, c, zs, hcs, _, hl, hm, hz, hx, hcell, _⟩
  · exact ⟨none, 0, [], by simpa using hcs, CAt.nil _ _, by simp, by simp⟩
  · have hz' : zs.length = c := by simpa using hz
    have hlen : (zs.take m).length = m := by rw [List.length_take]; omega
    refine ⟨some x, c, zs.take m, by rw [hlen]; simpa using hcs, ?_, ?_, ?_⟩
    · intro hne
      have hpos : 0 < m := by
        rcases Nat.eq_zero_or_pos m with h | h
        · exact absurd (by simp [h, tvals]) hne
        · exact h
      obtain ⟨b, o, spot⟩ := x
      have hc0 := hcell 0 (by omega)
      have hspot : spot = none := by simpa [Addr.add] using World.cell?_spot hc0
      subst hspot
      refine ⟨b, o, rfl, fun i hi => ?_⟩
      rw [tvals_len, hlen] at hi
      have hc := hcell i (by omega)
      rw [plain_add] at hc
      rw [hc, tvals_get]
      simp [List.getD, List.getElem?_eq_getElem (show i < zs.length by omega)]
    · rw [hlen]; unfold maxLen at hm; omega
    · rw [hx] at hbd
      have ht := Bd.total Try.underlying28 hbd
      have by9 : Try.prog.bytesOf 9 = 16 := by kernel_rfl
      rw [by9] at ht
      unfold reachBytes at ht
      simp only [strs, List.length_map, List.length_take, List.length_drop] at ht
      rw [hlen]; omega

theorem fields_arg2 {H : Type} {enc : TypeId × Value → H} {W : World} {base : Nat} {a0 : Option Addr} {len0 cap0 : Nat} {d0 : DataW H} {p0 : List MemPlace}
    (h0 : DataW.Trod enc Try.prog W base (fun _ => true) true 31 (.slice a0 len0 cap0) d0 p0) (hbd : Bd 31 d0) : (∃ its : List It, its.length = len0 ∧ FAt W a0 its ∧ (∀ i ∈ its, Short i) ∧ ∀ i ∈ its, Room i) ∧ len0 ≤ cap0 ∧ cap0 * 80 ≤ 140737488351232 := by
  obtain ⟨fuel, hf⟩ := h0
  obtain ⟨f0, f1, f2, f3, f4, f5, hu, o0, o1, o2, o3, o4, o5, t0, t1, t2, t3, t4, t5⟩ := struct30
  have ce : Try.prog.cellsOf 30 = 6 := by kernel_rfl
  have q5 : Try.prog.cellsOf 5 = 1 := by kernel_rfl
  have q26 : Try.prog.cellsOf 26 = 1 := by kernel_rfl
  have q2 : Try.prog.cellsOf 2 = 1 := by kernel_rfl
  have q9 : Try.prog.cellsOf 9 = 1 := by kernel_rfl
  have q27 : Try.prog.cellsOf 27 = 1 := by kernel_rfl
  have q28 : Try.prog.cellsOf 28 = 1 := by kernel_rfl
  rcases Deep.open_slice Try.underlying31 hf with ⟨hcs, _⟩ | ⟨x, len, cap, m, n, D, Pl, hcs, _, hl, hm, hmm, hxd, hx⟩
  · simp [Value.cells] at hcs
    obtain ⟨rfl, rfl, rfl⟩ := hcs
    exact ⟨⟨[], rfl, ⟨CAt.nil _ _, by simp⟩, by simp, by simp⟩, Nat.le_refl _, by omega⟩
  · simp [Value.cells] at hcs
    obtain ⟨rfl, rfl, rfl⟩ := hcs
    have hmc : m = cap0 := by rw [hmm]; rfl
    have hd0 : d0 = .slice ((List.range len0).map D) ((List.range (m - len0)).map fun j => D (len0 + j)) := (congrArg Prod.fst hxd)
    rw [hd0] at hbd
    have hel := Bd.elems Try.underlying31 hbd
    have htot := Bd.total Try.underlying31 hbd
    have by30 : Try.prog.bytesOf 30 = 80 := by kernel_rfl
    rw [by30] at htot
    simp only [List.length_map, List.length_range] at htot
    unfold reachBytes at htot
    refine ⟨?_, hl, by omega⟩
    have each : ∀ i, i < len0 → ∃ it : It, (W.cell? (x.add (i * 6)) = some (.int .u8 (it.fd.tag.toNat : Int)) ∧ W.cell? (x.add (i * 6 + 1)) = some (.int .u8 (it.fd.kind.toNat : Int)) ∧ W.cell? (x.add (i * 6 + 2)) = some (.int .i64 it.fd.n) ∧ W.cell? (x.add (i * 6 + 3)) = some (.string it.fd.text) ∧ W.cell? (x.add (i * 6 + 4)) = some (.slice it.na it.fd.ns.length it.nc) ∧ W.cell? (x.add (i * 6 + 5)) = some (.slice it.ta it.fd.texts.length it.tc)) ∧ ItAt W it ∧ Short it ∧ Room it := by
      intro i hi
      obtain ⟨cs', h1, h2⟩ := hx i (by omega)
      rw [ce] at h1
      obtain ⟨_, hlen, hcell⟩ := World.cells?_some h1
      obtain ⟨xs, k, _, hxe, _, hxl, hfl⟩ := DataW.trod_struct hu h2
      have hbi := hel (D i) (List.mem_map.2 ⟨i, List.mem_range.2 hi, rfl⟩)
      rw [show D i = .agg (xs.map (·.1)) from congrArg Prod.fst hxe] at hbi
      have hpt := Bd.parts hu hbi
      match xs, hxl, cs', hlen with
      | [y0, y1, y2, y3, y4, y5], _, [v0, v1, v2, v3, v4, v5], _ =>
        have g0 := hfl 0 f0 rfl
        have g1 := hfl 1 f1 rfl
        have g2 := hfl 2 f2 rfl
        have g3 := hfl 3 f3 rfl
        have g4 := hfl 4 f4 rfl
        have g5 := hfl 5 f5 rfl
        simp [o0, t0, q5] at g0
        simp [o1, t1, q26] at g1
        simp [o2, t2, q2] at g2
        simp [o3, t3, q9] at g3
        simp [o4, t4, q27] at g4
        simp [o5, t5, q28] at g5
        have e0 := hcell 0 (by omega)
        have e1 := hcell 1 (by omega)
        have e2 := hcell 2 (by omega)
        have e3 := hcell 3 (by omega)
        have e4 := hcell 4 (by omega)
        have e5 := hcell 5 (by omega)
        rw [Deep.add_add] at e0 e1 e2 e3 e4 e5
        obtain ⟨tg, rfl⟩ := byte_cell g0
        obtain ⟨kd, rfl⟩ := kind_cell g1
        obtain ⟨nn, rfl, hnn⟩ := num_cell g2
        obtain ⟨ss, rfl⟩ := str_cell g3
        have b4 := hpt 4 27 y4.1 (by simp [t4]) (by simp)
        have b5 := hpt 5 28 y5.1 (by simp [t5]) (by simp)
        obtain ⟨na, nc, ns, rfl, hna, hin, hnl, hnr⟩ := ns_cell2 g4 b4
        obtain ⟨ta, tc, ts, rfl, hta, htl, htr⟩ := ts_cell2 g5 b5
        exact ⟨⟨⟨tg, kd, nn, ss, ns, ts⟩, na, nc, ta, tc⟩, ⟨by simpa using e0, by simpa using e1, by simpa using e2, by simpa using e3, by simpa using e4, by simpa using e5⟩, ⟨hna, hta, ⟨hnn, hin⟩⟩, ⟨hnl, htl⟩, ⟨hnr, htr⟩⟩
    haveI : Inhabited It := ⟨⟨⟨0, 0, 0, ByteArray.empty, [], []⟩, none, 0, none, 0⟩⟩
    obtain ⟨f, hfp⟩ := Deep.choose_lt each
    refine ⟨(List.range len0).map f, by simp, ⟨fun hne => ?_, fun i hi => ?_⟩, fun i hi => ?_, fun i hi => ?_⟩
    · have hpos : 0 < len0 := by
        rcases Nat.eq_zero_or_pos len0 with h | h
        · exact absurd (by simp [h]) hne
        · exact h
      obtain ⟨b, o, spot⟩ := x
      have hc0 := (hfp 0 hpos).1.1
      have hspot : spot = none := by simpa [Addr.add] using World.cell?_spot hc0
      subst hspot
      refine cat_of_six _ (fun j hj => ?_) hne
      have hj' : j < len0 := by simpa using hj
      obtain ⟨⟨k0, k1, k2, k3, k4, k5⟩, _⟩ := hfp j hj'
      rw [plain_add] at k0 k1 k2 k3 k4 k5
      simp only [List.getElem_map, List.getElem_range]
      exact ⟨k0, by rw [Nat.add_assoc]; exact k1, by rw [Nat.add_assoc]; exact k2, by rw [Nat.add_assoc]; exact k3, by rw [Nat.add_assoc]; exact k4, by rw [Nat.add_assoc]; exact k5⟩
    · obtain ⟨j, hj, rfl⟩ := List.mem_map.1 hi
      exact (hfp j (List.mem_range.1 hj)).2.1
    · obtain ⟨j, hj, rfl⟩ := List.mem_map.1 hi
      exact (hfp j (List.mem_range.1 hj)).2.2.1
    · obtain ⟨j, hj, rfl⟩ := List.mem_map.1 hi
      exact (hfp j (List.mem_range.1 hj)).2.2.2

end Go.Proofs.Ytkkdiciadkcmmaa
