/- Clients of the call's own: one more among them, one of them changed. -/
import Derived.Test.YthjggjjocfbjcaaJudge
namespace Go.Proofs.Ythjggjjocfbjcaa
open Go.RowKit

theorem ctake (L : List CV) (i : Nat) : (L.take i).flatMap CV.cells = (L.flatMap CV.cells).take (i * 3) := by
  induction L generalizing i with
  | nil => simp
  | cons x r ih =>
    cases i with
    | zero => simp
    | succ i =>
      simp only [List.take_succ_cons, List.flatMap_cons, ih]
      have hl : x.cells.length = 3 := rfl
      rw [List.take_append, hl, List.take_of_length_le (l := x.cells) (by omega), show (i + 1) * 3 - 3 = i * 3 by omega]

theorem cdrop (L : List CV) (i : Nat) : (L.drop i).flatMap CV.cells = (L.flatMap CV.cells).drop (i * 3) := by
  induction L generalizing i with
  | nil => simp
  | cons x r ih =>
    cases i with
    | zero => simp
    | succ i =>
      simp only [List.drop_succ_cons, List.flatMap_cons, ih]
      have hl : x.cells.length = 3 := rfl
      rw [List.drop_append, hl, List.drop_eq_nil_of_le (show x.cells.length ≤ _ by omega), List.nil_append, show (i + 1) * 3 - 3 = i * 3 by omega]

theorem ktake (L : List KV) (i : Nat) : (L.take i).flatMap KV.cells = (L.flatMap KV.cells).take (i * 2) := by
  induction L generalizing i with
  | nil => simp
  | cons x r ih =>
    cases i with
    | zero => simp
    | succ i =>
      simp only [List.take_succ_cons, List.flatMap_cons, ih]
      have hl : x.cells.length = 2 := rfl
      rw [List.take_append, hl, List.take_of_length_le (l := x.cells) (by omega), show (i + 1) * 2 - 2 = i * 2 by omega]

theorem kdrop (L : List KV) (i : Nat) : (L.drop i).flatMap KV.cells = (L.flatMap KV.cells).drop (i * 2) := by
  induction L generalizing i with
  | nil => simp
  | cons x r ih =>
    cases i with
    | zero => simp
    | succ i =>
      simp only [List.drop_succ_cons, List.flatMap_cons, ih]
      have hl : x.cells.length = 2 := rfl
      rw [List.drop_append, hl, List.drop_eq_nil_of_le (show x.cells.length ≤ _ by omega), List.nil_append, show (i + 1) * 2 - 2 = i * 2 by omega]

theorem ccells_one (L : List CV) : ∀ u ∈ L.flatMap CV.cells, u.oneCell' = true := by
  intro u hu
  obtain ⟨x, _, hx⟩ := List.mem_flatMap.1 hu
  simp [CV.cells] at hx
  rcases hx with rfl | rfl | rfl <;> rfl

theorem kcells_one (L : List KV) : ∀ u ∈ L.flatMap KV.cells, u.oneCell' = true := by
  intro u hu
  obtain ⟨x, _, hx⟩ := List.mem_flatMap.1 hu
  simp [KV.cells] at hx
  rcases hx with rfl | rfl <;> rfl

/-- One more, that keeps nothing. -/
theorem COwn.ins {w w' : World} {base n i : Nat} {v v' : Value} {L : List CV} (x : Int) (h : COwn w base v L) (hL : L.length = n)
    (hr : w'.ownsRow base 34 3 v' (n + 1) ((L.flatMap CV.cells).take (i * 3) ++ [.int .i64 x, .int .i64 0, .slice none 0 0] ++ (L.flatMap CV.cells).drop (i * 3))) (hk : Kp (fun g => v.ownBlock = some g) w w') :
    COwn w' base v' (L.take i ++ ⟨x, 0, none, 0, []⟩ :: L.drop i) := by
  have hmem : ∀ c ∈ L.take i ++ ⟨x, 0, none, 0, []⟩ :: L.drop i, c ∈ L ∨ c = ⟨x, 0, none, 0, []⟩ := fun c hc => by
    rcases List.mem_append.1 hc with h1 | h1
    · exact .inl (List.mem_of_mem_take h1)
    · rcases List.mem_cons.1 h1 with h2 | h2
      · exact .inr h2
      · exact .inl (List.mem_of_mem_drop h2)
  refine ⟨?_, fun c hc => ?_, ?_⟩
  · have hlen : (L.take i ++ (⟨x, 0, none, 0, []⟩ : CV) :: L.drop i).length = n + 1 := by simp; omega
    rw [hlen]
    have e : (L.take i ++ (⟨x, 0, none, 0, []⟩ : CV) :: L.drop i).flatMap CV.cells = (L.flatMap CV.cells).take (i * 3) ++ [.int .i64 x, .int .i64 0, .slice none 0 0] ++ (L.flatMap CV.cells).drop (i * 3) := by
      rw [List.flatMap_append, List.flatMap_cons, ctake, cdrop]
      simp [CV.cells]
    rw [e]
    exact hr
  · rcases hmem c hc with h1 | rfl
    · exact (h.own c h1).kp hk (rows_off (h.own c h1).row h.row (by decide)) (fun q hq => own_off ((h.own c h1).own q hq) h.row (by decide))
    · exact KOwn.nil _ _ _
  · have hp := h.apart
    rw [← List.take_append_drop i L, List.pairwise_append] at hp
    rw [List.pairwise_append]
    refine ⟨hp.1, List.pairwise_cons.2 ⟨fun a _ y z hy => (by cases hy), hp.2.1⟩, fun a ha b hb y z hy hz => ?_⟩
    rcases List.mem_cons.1 hb with rfl | hb
    · cases hz
    · exact hp.2.2 a ha b hb y z hy hz

theorem COwn.one {w : World} {base n c : Nat} {a : Option Addr} {L : List CV} (h : COwn w base (.slice a n c) L) (i : Nat) (hi : i < L.length) :
    ∃ g, a = some ⟨g, 0, none⟩ ∧ n = L.length ∧ n ≤ c ∧ base ≤ g ∧ g < w.heap.size ∧ (∀ k, w.frozen? ⟨g, k, none⟩ = false) ∧ w.cell? ⟨g, i * 3, none⟩ = some (.int .i64 L[i].id) ∧ w.cell? ⟨g, i * 3 + 1, none⟩ = some (.int .i64 L[i].fl) ∧ w.cell? ⟨g, i * 3 + 2, none⟩ = some (.slice L[i].a L[i].ks.length L[i].c) := by
  have hcat := owns_cat h.row
  rcases h.row.2 with ⟨hh, h0⟩ | ⟨g, cap, cur, hh, hb, hg, hc, hcm, hs, ht⟩
  · rw [h0] at hi; omega
  · simp only [Value.slice.injEq] at hh
    obtain ⟨rfl, rfl, rfl⟩ := hh
    have := cat_c hcat i hi
    simp only [Nat.zero_add] at this
    exact ⟨g, rfl, rfl, hc, hb, (Array.getElem?_eq_some_iff.1 hg).1, fun k => by simp [World.frozen?, hg], this⟩

theorem set3_list (X Y : List Value) (m0 m1 m2 a b c : Value) (k : Nat) (hk : X.length = k) : ((((X ++ m0 :: m1 :: m2 :: Y).toArray.setIfInBounds k a).setIfInBounds (k + 1) b).setIfInBounds (k + 2) c) = (X ++ a :: b :: c :: Y).toArray := by
  subst hk
  apply Array.toList_inj.1
  simp

theorem flat_dropc {L : List CV} {j : Nat} (hj : j < L.length) : (L.drop j).flatMap CV.cells = Value.int .i64 L[j].id :: .int .i64 L[j].fl :: .slice L[j].a L[j].ks.length L[j].c :: (L.drop (j + 1)).flatMap CV.cells := by
  rw [List.drop_eq_getElem_cons hj, List.flatMap_cons]
  rfl

theorem set_flat (L : List CV) (i : Nat) (hi : i < L.length) (x : CV) : (L.set i x).flatMap CV.cells = (L.take i).flatMap CV.cells ++ (.int .i64 x.id :: .int .i64 x.fl :: .slice x.a x.ks.length x.c :: (L.drop (i + 1)).flatMap CV.cells) := by
  rw [List.set_eq_take_append_cons_drop, if_pos hi, List.flatMap_append, List.flatMap_cons]
  rfl

/-- One of them changed, what it keeps in its own row. -/
theorem COwn.upd {w w2 : World} {base n c g : Nat} {L : List CV} {i : Nat} (h : COwn w base (.slice (some ⟨g, 0, none⟩) n c) L) (hi : i < L.length) (S : Nat → Prop) (hS : ∀ k, S k → (Value.slice L[i].a L[i].ks.length L[i].c).ownBlock = some k ∨ w.heap.size ≤ k) (hk : Kp S w w2)
    (x : CV) (hx : KOwn 36 w2 base (.slice x.a x.ks.length x.c) x.ks) (hxa : ∀ y, x.a = some y → (Value.slice L[i].a L[i].ks.length L[i].c).ownBlock = some y.block ∨ w.heap.size ≤ y.block) :
    COwn (((w2.setCell ⟨g, i * 3, none⟩ (.int .i64 x.id)).setCell ⟨g, i * 3 + 1, none⟩ (.int .i64 x.fl)).setCell ⟨g, i * 3 + 2, none⟩ (.slice x.a x.ks.length x.c)) base (.slice (some ⟨g, 0, none⟩) n c) (L.set i x) := by
  have hri := (h.own _ (List.getElem_mem hi)).row
  have hgS : ¬ S g := fun e => by
    rcases hS g e with h1 | h1
    · exact rows_off hri h.row (by decide) g h1 rfl
    · have := (World.ownsRow.lt h.row g rfl).2; omega
  have hrow2 := owns_kp h.row hk (fun k hk' => by cases hk'; exact hgS)
  rcases hrow2.2 with ⟨hh, h0⟩ | ⟨g', cap, cur, hh, hb, hg, hc, hcm, hs, ht⟩
  · cases hh
  · simp only [Value.slice.injEq, Option.some.injEq, Addr.mk.injEq] at hh
    obtain ⟨⟨rfl, _, _⟩, rfl, rfl⟩ := hh
    have hkp3 : Kp (fun k => k = g) w2 (((w2.setCell ⟨g, i * 3, none⟩ (.int .i64 x.id)).setCell ⟨g, i * 3 + 1, none⟩ (.int .i64 x.fl)).setCell ⟨g, i * 3 + 2, none⟩ (.slice x.a x.ks.length x.c)) := (((Kp.refl (fun k => k = g) w2).setCell (p := ⟨g, i * 3, none⟩) rfl _).setCell (p := ⟨g, i * 3 + 1, none⟩) rfl _).setCell (p := ⟨g, i * 3 + 2, none⟩) rfl _
    have hX : ((L.take i).flatMap CV.cells).length = i * 3 := by rw [ccells_len, List.length_take]; omega
    have hcur : cur = ((L.take i).flatMap CV.cells ++ Value.int .i64 L[i].id :: .int .i64 L[i].fl :: .slice L[i].a L[i].ks.length L[i].c :: ((L.drop (i + 1)).flatMap CV.cells ++ cur.toList.drop (L.length * 3))).toArray := by
      apply Array.toList_inj.1
      conv => lhs; rw [← List.take_append_drop (L.length * 3) cur.toList, ht, ← List.take_append_drop i L, List.flatMap_append, flat_dropc hi]
      simp
    have hnew : (((w2.setCell ⟨g, i * 3, none⟩ (.int .i64 x.id)).setCell ⟨g, i * 3 + 1, none⟩ (.int .i64 x.fl)).setCell ⟨g, i * 3 + 2, none⟩ (.slice x.a x.ks.length x.c)) = w2.setRow g ((L.set i x).flatMap CV.cells ++ cur.toList.drop (L.length * 3)).toArray := by
      rw [setCell_eq_setRow w2 g (i * 3) _ 34 (0, 0) _ hg, setCell_eq_setRow _ g (i * 3 + 1) _ 34 (0, 0) _ (setRow_heap w2 g _ _ 34 _ hg), setRow_setRow, setCell_eq_setRow _ g (i * 3 + 2) _ 34 (0, 0) _ (setRow_heap w2 g _ _ 34 _ hg), setRow_setRow]
      congr 1
      conv => lhs; rw [hcur]
      rw [set3_list _ _ _ _ _ _ _ _ _ hX, set_flat L i hi x]
      simp
    have hlen : (L.set i x).length = L.length := by simp
    refine ⟨?_, fun d hd => ?_, ?_⟩
    · rw [hnew, hlen]
      refine owns_set hg hb hc hcm ?_ (by rw [ccells_len, hlen]) ?_
      · rw [List.size_toArray, List.length_append, ccells_len, hlen, List.length_drop]; simp only [Array.length_toList, hs]; omega
      · rw [List.take_append_of_le_length (by rw [ccells_len, hlen]; omega), List.take_of_length_le (by rw [ccells_len, hlen]; omega)]
    · obtain ⟨j, hj, rfl⟩ := List.getElem_of_mem hd
      have hjL : j < L.length := by simpa using hj
      rw [List.getElem_set]
      split
      · exact hx.kp hkp3 (fun k hk' e => by subst e; exact rows_off hx.row hrow2 (by decide) _ hk' rfl) (fun q hq k hk' e => by subst e; exact own_off (hx.own q hq) hrow2 (by decide) _ hk' rfl)
      · rename_i hij
        have hoj := h.own _ (List.getElem_mem hjL)
        have hap : ∀ k, (Value.slice L[j].a L[j].ks.length L[j].c).ownBlock = some k → ¬ S k := fun k hk' e => by
          rcases hS k e with h1 | h1
          · have hp := List.pairwise_iff_getElem.1 h.apart
            cases ha : L[i].a with
            | none => rw [ha] at h1; cases h1
            | some xa =>
              cases hb' : L[j].a with
              | none => rw [hb'] at hk'; cases hk'
              | some xb =>
                rw [ha] at h1; rw [hb'] at hk'
                have e1 : xa.block = k := Option.some.inj h1
                have e2 : xb.block = k := Option.some.inj hk'
                rcases Nat.lt_or_gt_of_ne hij with h2 | h2
                · exact hp i j hi hjL h2 xa xb ha hb' (by rw [e1, e2])
                · exact hp j i hjL hi h2 xb xa hb' ha (by rw [e1, e2])
          · have := (World.ownsRow.lt hoj.row k hk').2; omega
        have hbp : ∀ q ∈ L[j].ks, ∀ k, (Value.slice q.a q.body.length q.c).ownBlock = some k → ¬ S k := fun q hq k hk' e => by
          rcases hS k e with h1 | h1
          · exact own_off (hoj.own q hq) hri (by decide) k hk' h1
          · have := ((hoj.own q hq).lt k hk').2; omega
        have ho2 := hoj.kp hk hap hbp
        exact ho2.kp hkp3 (fun k hk' e => by subst e; exact rows_off ho2.row hrow2 (by decide) _ hk' rfl) (fun q hq k hk' e => by subst e; exact own_off (ho2.own q hq) hrow2 (by decide) _ hk' rfl)
    · rw [List.pairwise_iff_getElem]
      have hp := List.pairwise_iff_getElem.1 h.apart
      have hlow : ∀ j (hj : j < L.length), ∀ y, L[j].a = some y → y.block < w.heap.size := fun j hj y hy => (World.ownsRow.lt (h.own _ (List.getElem_mem hj)).row y.block (by rw [hy]; rfl)).2
      have hoth : ∀ j (hj : j < L.length), j ≠ i → ∀ y z, x.a = some y → L[j].a = some z → y.block ≠ z.block := fun j hj hne y z hy hz => by
        rcases hxa y hy with h1 | h1
        · cases ha : L[i].a with
          | none => rw [ha] at h1; cases h1
          | some xa =>
            rw [ha] at h1
            have e1 : xa.block = y.block := Option.some.inj h1
            rcases Nat.lt_or_gt_of_ne hne with h2 | h2
            · have := hp j i hj hi h2 z xa hz ha; rw [e1] at this; exact fun e => this e.symm
            · have := hp i j hi hj h2 xa z ha hz; rw [e1] at this; exact this
        · have := hlow j hj z hz; omega
      intro j1 j2 h1 h2 h12 y z hy hz
      have h1' : j1 < L.length := by simpa using h1
      have h2' : j2 < L.length := by simpa using h2
      rw [List.getElem_set] at hy hz
      split at hy
      · rename_i e1
        subst e1
        rw [if_neg (by omega)] at hz
        exact hoth j2 h2' (by omega) y z hy hz
      · split at hz
        · rename_i e2
          subst e2
          exact fun e => hoth j1 h1' (by omega) z y hz hy e.symm
        · exact hp j1 j2 h1' h2' h12 y z hy hz

end Go.Proofs.Ythjggjjocfbjcaa
