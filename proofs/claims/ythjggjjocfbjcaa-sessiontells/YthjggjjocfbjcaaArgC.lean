/- What a []api.Client among the arguments is. -/
import Derived.Test.YthjggjjocfbjcaaArg
import Derived.SliceStrings
import Derived.Deep.Slices
namespace Go.Proofs.Ythjggjjocfbjcaa
open Go.ChangeShapes Go.WideShapes Go.ChangeAt Go.RowKit

theorem int_cell {H : Type} {enc : TypeId × Value → H} {W : World} {base n : Nat} {V : Value} {y : DataW H × List MemPlace}
    (h : DataW.trod enc Try.prog W base (fun _ => true) true n 3 [V] = some y) : ∃ k : Int, V = .int .i64 k ∧ (Lit.int .i64 k).wf = true := by
  obtain ⟨m, hm, _, hw⟩ := DataW.trod_int Try.underlying3 h
  exact ⟨m, by simpa using hm, hw⟩

theorem bytes_cell {H : Type} {enc : TypeId × Value → H} {W : World} {base n : Nat} {V : Value} {y : DataW H × List MemPlace}
    (h : DataW.trod enc Try.prog W base (fun _ => true) true n 24 [V] = some y) (hw : ∀ k ∈ y.1.weights Try.prog 24, k ≤ reachBytes) : ∃ a c, ∃ l : List UInt8, V = .slice a l.length c ∧ At W a l ∧ l.length ≤ SMALL := by
  have hV : ∃ a len cap, V = .slice a len cap := by
    rcases open_ints Try.underlying24 Try.underlying5 (by kernel_rfl) h with ⟨hcs, _⟩ | ⟨x, m, c, zs, hcs, _⟩
    · exact ⟨none, 0, 0, by simpa using hcs⟩
    · exact ⟨some x, m, c, by simpa using hcs⟩
  obtain ⟨a, len, cap, rfl⟩ := hV
  have hT : DataW.Trod enc Try.prog W base (fun _ => true) true 24 (.slice a len cap) y.1 y.2 := ⟨n, h⟩
  obtain ⟨l, hl, hat, hlc, hd⟩ := bytes_arg hT
  refine ⟨a, cap, l, by rw [hl], hat, ?_⟩
  have b5 : Try.prog.bytesOf 5 = 1 := by kernel_rfl
  rcases hd with ⟨_, rfl⟩ | ⟨elems, spare, he, hc⟩
  · unfold SMALL; omega
  · have := hw ((elems.length + spare.length) * Try.prog.bytesOf 5) (by rw [he]; simp [DataW.weights, Try.underlying24])
    rw [b5] at this
    have h2 : reachBytes = 140737488351232 := rfl
    unfold SMALL; omega

theorem mem_weightsAll {H : Type} {P : Program} {e : TypeId} {k : Nat} : ∀ {l : List (DataW H)} {d : DataW H}, d ∈ l → k ∈ d.weights P e → k ∈ DataW.weightsAll P e l
  | x :: r, d, hd, hk => by
    simp only [DataW.weightsAll, List.mem_append]
    rcases List.mem_cons.1 hd with rfl | h
    · exact .inl hk
    · exact .inr (mem_weightsAll h hk)

theorem cat_kv {W : World} {b o : Nat} {ks : List KV} (h : ∀ i (hi : i < ks.length), W.cell? ⟨b, o + i * 2, none⟩ = some (.int .i64 ks[i].num) ∧ W.cell? ⟨b, o + (i * 2 + 1), none⟩ = some (.slice ks[i].a ks[i].body.length ks[i].c)) : CAt W (some ⟨b, o, none⟩) (ks.flatMap KV.cells) := by
  refine fun _ => ⟨b, o, rfl, fun t ht => ?_⟩
  have ht' : t < ks.length * 2 := by rw [← kcells_len]; exact ht
  have hi : t / 2 < ks.length := by omega
  have hr : t % 2 < 2 := Nat.mod_lt _ (by omega)
  have e : t = t / 2 * 2 + t % 2 := by omega
  have hg := kcells_get ks (t / 2) (t % 2) hi hr
  rw [← e, List.getElem?_eq_getElem ht] at hg
  obtain ⟨h0, h1⟩ := h (t / 2) hi
  rcases Nat.lt_or_ge (t % 2) 1 with h2 | h2
  · have e2 : t % 2 = 0 := by omega
    rw [e2] at hg
    have e3 : t / 2 * 2 = t := by omega
    rw [e3] at h0
    rw [h0]
    exact hg.symm
  · have e2 : t % 2 = 1 := by omega
    rw [e2] at hg
    have e3 : t / 2 * 2 + 1 = t := by omega
    rw [e3] at h1
    rw [h1]
    exact hg.symm

theorem cat_cv {W : World} {b o : Nat} {L : List CV} (h : ∀ i (hi : i < L.length), W.cell? ⟨b, o + i * 3, none⟩ = some (.int .i64 L[i].id) ∧ W.cell? ⟨b, o + (i * 3 + 1), none⟩ = some (.int .i64 L[i].fl) ∧ W.cell? ⟨b, o + (i * 3 + 2), none⟩ = some (.slice L[i].a L[i].ks.length L[i].c)) : CAt W (some ⟨b, o, none⟩) (L.flatMap CV.cells) := by
  refine fun _ => ⟨b, o, rfl, fun t ht => ?_⟩
  have ht' : t < L.length * 3 := by rw [← ccells_len]; exact ht
  have hi : t / 3 < L.length := by omega
  have hr : t % 3 < 3 := Nat.mod_lt _ (by omega)
  have e : t = t / 3 * 3 + t % 3 := by omega
  have hg := ccells_get L (t / 3) (t % 3) hi hr
  rw [← e, List.getElem?_eq_getElem ht] at hg
  obtain ⟨h0, h1, h2⟩ := h (t / 3) hi
  have hcase : t % 3 = 0 ∨ t % 3 = 1 ∨ t % 3 = 2 := by omega
  rcases hcase with e2 | e2 | e2
  · rw [e2] at hg
    have e3 : t / 3 * 3 = t := by omega
    rw [e3] at h0
    rw [h0]
    exact hg.symm
  · rw [e2] at hg
    have e3 : t / 3 * 3 + 1 = t := by omega
    rw [e3] at h1
    rw [h1]
    exact hg.symm
  · rw [e2] at hg
    have e3 : t / 3 * 3 + 2 = t := by omega
    rw [e3] at h2
    rw [h2]
    exact hg.symm

theorem struct36 : ∃ f0 f1 : Field, Try.prog.underlying 36 = some (.struct #[f0, f1]) ∧ f0.offset = 0 ∧ f1.offset = 1 ∧ f0.type = 3 ∧ f1.type = 24 :=
  ⟨_, _, Try.underlying36, rfl, rfl, rfl, rfl⟩
theorem struct69 : ∃ f0 f1 : Field, Try.prog.underlying 69 = some (.struct #[f0, f1]) ∧ f0.offset = 0 ∧ f1.offset = 1 ∧ f0.type = 3 ∧ f1.type = 24 :=
  ⟨_, _, Try.underlying69, rfl, rfl, rfl, rfl⟩
theorem struct34 : ∃ f0 f1 f2 : Field, Try.prog.underlying 34 = some (.struct #[f0, f1, f2]) ∧ f0.offset = 0 ∧ f1.offset = 1 ∧ f2.offset = 2 ∧ f0.type = 3 ∧ f1.type = 3 ∧ f2.type = 32 :=
  ⟨_, _, _, Try.underlying34, rfl, rfl, rfl, rfl, rfl, rfl⟩

theorem len2 {α : Type} : ∀ {l : List α}, l.length = 2 → ∃ a b, l = [a, b]
  | [a, b], _ => ⟨a, b, rfl⟩
theorem len3 {α : Type} : ∀ {l : List α}, l.length = 3 → ∃ a b c, l = [a, b, c]
  | [a, b, c], _ => ⟨a, b, c, rfl⟩

theorem kept_cell {H : Type} {enc : TypeId × Value → H} {W : World} {base n0 : Nat} {V : Value} {y : DataW H × List MemPlace} (s e : Nat) (hs : Try.prog.underlying s = some (.slice e)) (hst : ∃ f0 f1 : Field, Try.prog.underlying e = some (.struct #[f0, f1]) ∧ f0.offset = 0 ∧ f1.offset = 1 ∧ f0.type = 3 ∧ f1.type = 24) (ce : Try.prog.cellsOf e = 2) (be : Try.prog.bytesOf e = 32)
    (h : DataW.trod enc Try.prog W base (fun _ => true) true n0 s [V] = some y) (hw : ∀ k ∈ y.1.weights Try.prog s, k ≤ reachBytes) : ∃ a c, ∃ ks : List KV, V = .slice a ks.length c ∧ KAt W 0 a ks ∧ ks.length * 32 ≤ SMALL ∧ ∀ k ∈ ks, (Lit.int .i64 k.num).wf = true := by
  have c3 : Try.prog.cellsOf 3 = 1 := by kernel_rfl
  have c24 : Try.prog.cellsOf 24 = 1 := by kernel_rfl
  have hrb : reachBytes = 140737488351232 := rfl
  rcases Deep.open_slice hs h with ⟨hcs, _⟩ | ⟨x, len, cap, m, n, D, Pl, hcs, _, hl, hm, hmm, hd, hx⟩
  · exact ⟨none, 0, [], by simpa using hcs, KAt.nil _ _, by simp, by simp⟩
  · have hmc : m = cap := by rw [hmm]; rfl
    obtain ⟨f0, f1, he, o0, o1, t0, t1⟩ := hst
    have hd1 := congrArg Prod.fst hd
    simp only at hd1
    have each : ∀ i, i < len → ∃ q : KV, (W.cell? (x.add (i * 2)) = some (.int .i64 q.num) ∧ W.cell? (x.add (i * 2 + 1)) = some (.slice q.a q.body.length q.c)) ∧ At W q.a q.body ∧ q.body.length ≤ SMALL ∧ (Lit.int .i64 q.num).wf = true := fun i hi => by
      obtain ⟨cs', h1, h2⟩ := hx i (by omega)
      rw [ce] at h1
      obtain ⟨_, hlen, hcell⟩ := World.cells?_some h1
      obtain ⟨xs, k, hk, hxy, _, hxl, hfs⟩ := DataW.trod_struct he h2
      obtain ⟨y0, y1, rfl⟩ := len2 (l := xs) (by simpa using hxl)
      obtain ⟨v0, v1, rfl⟩ := len2 (l := cs') (by simpa using hlen)
      have g0 := hfs 0 f0 rfl
      have g1 := hfs 1 f1 rfl
      simp [o0, o1, t0, t1, c3, c24] at g0 g1
      have e0 := hcell 0 (by omega)
      have e1 := hcell 1 (by omega)
      rw [Deep.add_add] at e0 e1
      obtain ⟨k0, rfl, hwf⟩ := int_cell g0
      simp only [Prod.mk.injEq] at hxy
      obtain ⟨a1, c1, l1, rfl, hat, hsm⟩ := bytes_cell g1 (fun k hk => hw k (by
        rw [hd1]
        simp only [DataW.weights, hs, List.mem_cons, List.mem_append]
        refine .inr (.inl (mem_weightsAll (d := D i) (List.mem_map.2 ⟨i, List.mem_range.2 hi, rfl⟩) ?_))
        rw [hxy.1]
        simp [DataW.weights, he, DataW.weightsEach, t0, t1, hk]))
      exact ⟨⟨k0, a1, c1, l1⟩, ⟨by simpa using e0, by simpa using e1⟩, hat, hsm, hwf⟩
    haveI : Inhabited KV := ⟨⟨0, none, 0, []⟩⟩
    obtain ⟨f, hfp⟩ := Deep.choose_lt each
    have hlen : ((List.range len).map f).length = len := by simp
    refine ⟨some x, cap, (List.range len).map f, by rw [hlen]; simpa using hcs, ⟨?_, fun _ _ => Nat.zero_le _, fun k hk => ?_, fun _ _ _ _ => Nat.zero_le _, fun k hk => ?_⟩, ?_, fun k hk => ?_⟩
    · intro hne
      have hpos : 0 < len := by
        rcases Nat.eq_zero_or_pos len with h | h
        · exact absurd (by simp [h]) hne
        · exact h
      obtain ⟨b, o, spot⟩ := x
      have hc0 := (hfp 0 hpos).1.1
      have hspot : spot = none := by simpa [Addr.add] using World.cell?_spot hc0
      subst hspot
      have hplain : ∀ q, (⟨b, o, none⟩ : Addr).add q = ⟨b, o + q, none⟩ := fun q => by unfold Addr.add; split <;> simp_all
      refine cat_kv (fun i hi => ?_) hne
      have hi' : i < len := by simpa using hi
      have := (hfp i hi').1
      simp only [hplain] at this
      simp only [List.getElem_map, List.getElem_range]
      exact this
    · obtain ⟨j, hj, rfl⟩ := List.mem_map.1 hk
      exact (hfp j (List.mem_range.1 hj)).2.1
    · obtain ⟨j, hj, rfl⟩ := List.mem_map.1 hk
      exact (hfp j (List.mem_range.1 hj)).2.2.1
    · have := hw _ (by rw [hd1]; simp only [DataW.weights, hs, List.mem_cons]; exact .inl rfl)
      rw [be] at this
      rw [hlen]
      simp at this
      unfold SMALL; omega
    · obtain ⟨j, hj, rfl⟩ := List.mem_map.1 hk
      exact (hfp j (List.mem_range.1 hj)).2.2.2

theorem clients_arg {H : Type} {enc : TypeId × Value → H} {W : World} {base : Nat} {a0 : Option Addr} {len0 cap0 : Nat} {d0 : DataW H} {p0 : List MemPlace}
    (h0 : DataW.Trod enc Try.prog W base (fun _ => true) true 22 (.slice a0 len0 cap0) d0 p0) (hw : ∀ k ∈ d0.weights Try.prog 22, k ≤ reachBytes) :
    ∃ L : List CV, L.length = len0 ∧ LAt W 0 a0 L ∧ len0 * 40 ≤ SMALL ∧ (∀ x ∈ L, x.ks.length * 32 ≤ SMALL) ∧ (∀ x ∈ L, (Lit.int .i64 x.id).wf = true ∧ (Lit.int .i64 x.fl).wf = true ∧ ∀ k ∈ x.ks, (Lit.int .i64 k.num).wf = true) := by
  obtain ⟨fuel, hf⟩ := h0
  have c3 : Try.prog.cellsOf 3 = 1 := by kernel_rfl
  have c32 : Try.prog.cellsOf 32 = 1 := by kernel_rfl
  have ce : Try.prog.cellsOf 34 = 3 := by kernel_rfl
  have be : Try.prog.bytesOf 34 = 40 := by kernel_rfl
  have hrb : reachBytes = 140737488351232 := rfl
  rcases Deep.open_slice Try.underlying22 hf with ⟨hcs, _⟩ | ⟨x, len, cap, m, n, D, Pl, hcs, _, hl, hm, hmm, hd, hx⟩
  · simp [Value.cells] at hcs
    obtain ⟨rfl, rfl, rfl⟩ := hcs
    exact ⟨[], rfl, LAt.nil _ _, by unfold SMALL; omega, by simp, by simp⟩
  · simp [Value.cells] at hcs
    obtain ⟨rfl, rfl, rfl⟩ := hcs
    have hmc : m = cap0 := by rw [hmm]; rfl
    obtain ⟨f0, f1, f2, he, o0, o1, o2, t0, t1, t2⟩ := struct34
    simp only [Prod.mk.injEq] at hd
    have each : ∀ i, i < len0 → ∃ q : CV, (W.cell? (x.add (i * 3)) = some (.int .i64 q.id) ∧ W.cell? (x.add (i * 3 + 1)) = some (.int .i64 q.fl) ∧ W.cell? (x.add (i * 3 + 2)) = some (.slice q.a q.ks.length q.c)) ∧ KAt W 0 q.a q.ks ∧ q.ks.length * 32 ≤ SMALL ∧ (Lit.int .i64 q.id).wf = true ∧ (Lit.int .i64 q.fl).wf = true ∧ ∀ k ∈ q.ks, (Lit.int .i64 k.num).wf = true := fun i hi => by
      obtain ⟨cs', h1, h2⟩ := hx i (by omega)
      rw [ce] at h1
      obtain ⟨_, hlen, hcell⟩ := World.cells?_some h1
      obtain ⟨xs, k, hk, hxy, _, hxl, hfs⟩ := DataW.trod_struct he h2
      obtain ⟨y0, y1, y2, rfl⟩ := len3 (l := xs) (by simpa using hxl)
      obtain ⟨v0, v1, v2, rfl⟩ := len3 (l := cs') (by simpa using hlen)
      have g0 := hfs 0 f0 rfl
      have g1 := hfs 1 f1 rfl
      have g2 := hfs 2 f2 rfl
      simp [o0, o1, o2, t0, t1, t2, c3, c32] at g0 g1 g2
      have e0 := hcell 0 (by omega)
      have e1 := hcell 1 (by omega)
      have e2 := hcell 2 (by omega)
      rw [Deep.add_add] at e0 e1 e2
      obtain ⟨k0, rfl, hw0⟩ := int_cell g0
      obtain ⟨k1, rfl, hw1⟩ := int_cell g1
      simp only [Prod.mk.injEq] at hxy
      obtain ⟨a2, c2, ks, rfl, hka, hsm, hwk⟩ := kept_cell 32 36 Try.underlying32 struct36 (by kernel_rfl) (by kernel_rfl) g2 (fun k hk => hw k (by
        rw [hd.1]
        simp only [DataW.weights, Try.underlying22, List.mem_cons, List.mem_append]
        refine .inr (.inl (mem_weightsAll (d := D i) (List.mem_map.2 ⟨i, List.mem_range.2 hi, rfl⟩) ?_))
        rw [hxy.1]
        simp [DataW.weights, he, DataW.weightsEach, t0, t1, t2, hk]))
      exact ⟨⟨k0, k1, a2, c2, ks⟩, ⟨by simpa using e0, by simpa using e1, by simpa using e2⟩, hka, hsm, hw0, hw1, hwk⟩
    haveI : Inhabited CV := ⟨⟨0, 0, none, 0, []⟩⟩
    obtain ⟨f, hfp⟩ := Deep.choose_lt each
    have hlen : ((List.range len0).map f).length = len0 := by simp
    refine ⟨(List.range len0).map f, hlen, ⟨?_, fun _ _ => Nat.zero_le _, fun k hk => ?_⟩, ?_, fun k hk => ?_, fun k hk => ?_⟩
    · intro hne
      have hpos : 0 < len0 := by
        rcases Nat.eq_zero_or_pos len0 with h | h
        · exact absurd (by simp [h]) hne
        · exact h
      obtain ⟨b, o, spot⟩ := x
      have hc0 := (hfp 0 hpos).1.1
      have hspot : spot = none := by simpa [Addr.add] using World.cell?_spot hc0
      subst hspot
      have hplain : ∀ q, (⟨b, o, none⟩ : Addr).add q = ⟨b, o + q, none⟩ := fun q => by unfold Addr.add; split <;> simp_all
      refine cat_cv (fun i hi => ?_) hne
      have hi' : i < len0 := by simpa using hi
      have := (hfp i hi').1
      simp only [hplain] at this
      simp only [List.getElem_map, List.getElem_range]
      exact this
    · obtain ⟨j, hj, rfl⟩ := List.mem_map.1 hk
      exact (hfp j (List.mem_range.1 hj)).2.1
    · have := hw _ (by rw [hd.1]; simp only [DataW.weights, Try.underlying22, List.mem_cons]; exact .inl rfl)
      rw [be] at this
      simp at this
      unfold SMALL; omega
    · obtain ⟨j, hj, rfl⟩ := List.mem_map.1 hk
      exact (hfp j (List.mem_range.1 hj)).2.2.1
    · obtain ⟨j, hj, rfl⟩ := List.mem_map.1 hk
      exact (hfp j (List.mem_range.1 hj)).2.2.2

end Go.Proofs.Ythjggjjocfbjcaa
