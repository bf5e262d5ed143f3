/- What is wrong with a list of dependencies: the code's side. -/
import Derived.Test.YtphkdjacladcpaaDr
namespace Go.Proofs.Ytphkdjacladcpaa
open Go.RowKit
set_option linter.unusedVariables false
set_option linter.unusedSimpArgs false

set_option maxRecDepth 100000 in
theorem dcont_any (d : Dp) (a : Option Addr) (k c : Nat) (D : List Dp) (w : World) (hn : D.length = k) (hl : k ≤ 4611686018427387904) (hat : DAt w a D) :
    Calls Try.prog 22 #[.slice a k c, .agg (dc2 d).toArray] w fun e w' => e = .returned (.bool (D.any (isD d))) ∧ Below w.heap.size w w' := by
  have bl := below_lit w (.cells (dc2 d).toArray 51)
  have row : (w.alloc (.cells (dc2 d).toArray 51)).heap[w.heap.size]? = some (.cells (dc2 d).toArray 51 (0, 0)) := heap_alloc_new w _
  have kI := dfind_any d a k c D _ hn hl (hat.below bl)
  replace hn := hid hn
  replace hat := hid hat
  replace row := hid row
  go_enter Try.func22, Try.ntmps22
  go_wp2_with (refine wpList_load_row rfl 51 (.tmp 3) rfl w.heap.size rfl 51 (dc2 d).toArray (0, 0) _ row.out Try.underlying51 rfl (by kernel_rfl) ?_)
  refine kI.mono ?_
  rintro e w1 ⟨⟨i, rfl, hi⟩, hb1⟩
  replace hi := hid hi
  go_wp2_with fail
  go_ret
  exact ⟨ret_bool hi.out, bnext bl hb1⟩

theorem dc2_all (d : Dp) : (dc2 d).toArray.all (·.oneCell') = true := by simp [dc2, Value.oneCell']
theorem DAt.take {w : World} {a : Option Addr} {D : List Dp} (h : DAt w a D) (i : Nat) : DAt w a (D.take i) := by
  have e : D = D.take i ++ D.drop i := (List.take_append_drop i D).symm
  unfold DAt CAt at *
  intro h0
  have h1 : D.flatMap dc2 ≠ [] := by
    intro h2
    rw [e, List.flatMap_append] at h2
    exact h0 (List.append_eq_nil_iff.1 h2).1
  obtain ⟨b, o, rfl, hc⟩ := h h1
  refine ⟨b, o, rfl, fun j hj => ?_⟩
  have hj2 : j < (D.flatMap dc2).length := by rw [e, List.flatMap_append, List.length_append]; omega
  rw [hc j hj2]
  congr 1
  have : (D.flatMap dc2)[j]? = ((D.take i).flatMap dc2)[j]? := by
    conv => lhs; rw [e, List.flatMap_append, List.getElem?_append_left hj]
  rw [List.getElem?_eq_getElem hj2, List.getElem?_eq_getElem hj] at this
  exact Option.some.inj this

theorem err_arg {D : List Dp} {next : Int} {i : Nat} (h : kindB (dpAt D i).1 = false ∨ (dpAt D i).2 < 1) : errAt D next i = 2 := by unfold errAt; rw [if_pos h]
theorem err_self {D : List Dp} {next : Int} {i : Nat} (h : kindB (dpAt D i).1 = true) (h1 : ¬ (dpAt D i).2 < 1) (h2 : next ≤ (dpAt D i).2) : errAt D next i = 200 := by
  unfold errAt; rw [if_neg (fun e => by rcases e with e | e; (rw [h] at e; cases e); exact h1 e), if_pos h2]
theorem err_twice {D : List Dp} {next : Int} {i : Nat} (h : kindB (dpAt D i).1 = true) (h1 : ¬ (dpAt D i).2 < 1) (h2 : ¬ next ≤ (dpAt D i).2) : errAt D next i = if twiceB D i = true then 140 else 0 := by
  unfold errAt; rw [if_neg (fun e => by rcases e with e | e; (rw [h] at e; cases e); exact h1 e), if_neg h2]
theorem RT.at {D : List Dp} {next E : Int} {i : Nat} (hl : D.length ≤ 4) (hi : i < D.length) (he : errAt D next i = E) (h0 : E ≠ 0) (ho : ∀ m, m < i → errAt D next m = 0) : RT D next E := .inr ⟨hl, .inr ⟨h0, i, hi, he, ho⟩⟩

def pv10 (D : List Dp) (b o k c j : Nat) (X : Dp) : List Value := [.slice (some ⟨b, o, none⟩) k c, .int .i64 (j : Int), .slice (some ⟨b, o, none⟩) j c, .agg (dc2 X).toArray, .bool (twiceB D j), .bool (twiceB D j)]

set_option maxRecDepth 100000 in
set_option maxHeartbeats 2000000 in
theorem dright_any (a : Option Addr) (k c : Nat) (D : List Dp) (next : Int) (w : World) (hn : D.length = k) (hkc : k ≤ c) (hl : c ≤ 9223372036854775807) (hat : DAt w a D) :
    Calls Try.prog 9 #[.slice a k c, .int .i64 next] w fun e w' => (∃ E : Int, e = .returned (.int .i64 E) ∧ RT D next E) ∧ Below w.heap.size w w' := by
  have kK := fun K w => iskind_any K w
  replace hn := hid hn
  replace hat := hid hat
  go_enter Try.func9, Try.ntmps9
  by_cases h4 : 4 < k
  · have d4 : (4 : Int) < (k : Int) := by omega
    go_wp2_with fail
    go_ret
    exact ⟨⟨3, rfl, .inl ⟨by rw [hn.out]; exact h4, rfl⟩⟩, Below.refl _ _⟩
  have d4 : ¬ (4 : Int) < (k : Int) := by omega
  go_wp2_with fail
  go_loopw [12] (fun i wr => ∃ j : Nat, j ≤ k ∧ i = .int .i64 (j : Int) ∧ Hid (∀ m, m < j → errAt D next m = 0) ∧ Below w.heap.size w wr) (fun i _ => k - (intOf i).toNat)
  case atStart => exact ⟨0, Nat.zero_le _, rfl, hid (fun i h => by omega), Below.refl _ _⟩
  case round =>
    obtain ⟨j, hj, rfl, hok, hb⟩ := hrel
    by_cases hlt : j < k
    · have hjL : j < D.length := by rw [hn.out]; exact hlt
      obtain ⟨b, o, e⟩ := hat.out.place (by omega)
      subst e
      have hcj := hid (DAt.range (hat.out.below hb) hjL)
      have hxx := hid (fun (E : Int) (he : errAt D next j = E) (h0 : E ≠ 0) => RT.at (D := D) (by rw [hn.out]; omega) hjL he h0 hok.out)
      have hnx : errAt D next j = 0 → ∀ m, m < j + 1 → errAt D next m = 0 := fun h m hm => by
        rcases Nat.lt_or_ge m j with h1 | h1
        · exact hok.out m h1
        · obtain rfl : m = j := by omega
          exact h
      have htw : twiceB D j = (D.take j).any (isD (dpAt D j)) := rfl
      have hea := hid (fun h => err_arg (D := D) (next := next) (i := j) h)
      have hes := hid (fun h => err_self (D := D) (next := next) (i := j) h)
      have het := hid (fun h => err_twice (D := D) (next := next) (i := j) h)
      replace htw := hid htw
      replace hnx := hid hnx
      obtain ⟨X, hX⟩ : ∃ X, X = dpAt D j := ⟨_, rfl⟩
      rw [← hX] at hcj hea hes het htw
      replace hX := hid hX
      obtain ⟨K, I⟩ := X
      obtain ⟨W1, hW1⟩ : ∃ W1, W1 = wr.alloc (.cells (dc2 (K, I)).toArray 51) := ⟨_, rfl⟩
      have bl1 := below_lit wr (.cells (dc2 (K, I)).toArray 51)
      rw [← hW1] at bl1
      have B1 := bnext hb bl1
      have row := heap_alloc_new wr (.cells (dc2 (K, I)).toArray 51)
      rw [← hW1] at row
      have hg1 : wr.heap.size < W1.heap.size := by rw [hW1, size_lit]; omega
      have c0 : W1.cell? ⟨wr.heap.size, 0, none⟩ = some (.int .u8 K) := by rw [hW1]; exact lit_cell wr 51 _ 0 _ rfl
      have c1 : W1.cell? ⟨wr.heap.size, 1, none⟩ = some (.int .i64 I) := by rw [hW1]; exact lit_cell wr 51 _ 1 _ rfl
      have kC := fun wx (h : Below W1.heap.size W1 wx) => dcont_any (K, I) (some ⟨b, o, none⟩) j c (D.take j) wx (by rw [List.length_take]; omega) (by omega) ((hat.out.below (bnext B1 h)).take j)
      rw [← htw.out] at kC
      replace kC := hid kC
      replace row := hid row
      rw [hW1] at c0 c1
      go_wp2_with (first
        | (refine wpList_load_mid rfl 51 (.tmp 15) rfl b (o + j * 2) rfl (dc2 (K, I)) _ hcj.out Try.underlying51 rfl (by kernel_rfl) ?_)
        | (refine wpList_store_row rfl 51 (.tmp 6) (.tmp 16) rfl wr.heap.size (dc2 (K, I)).toArray rfl rfl 51 _ (heap_alloc_new wr _) (by kernel_rfl) rfl (dc2_all _) ?_; rw [alloc_setRow]))
      rw [← hW1]
      rw [← hW1] at c0 c1
      replace hW1 := hid hW1
      have kK1 := kK K
      cases hA : kindB K with
      | false =>
        rw [hA] at kK1
        have hx2 := hid (hxx.out 2 (hea.out (.inl hA)) (by decide))
        clear hea hes het hxx hnx kC kK
        go_wp2_with fail
        refine (kK1 _).mono ?_
        rintro e w2 ⟨rfl, hb2⟩
        replace c0 := stay hb2 c0
        replace c1 := stay hb2 c1
        go_wp2_with fail
        go_ret
        exact ⟨⟨2, rfl, hx2.out⟩, bnext B1 hb2⟩
      | true =>
        rw [hA] at kK1
        by_cases hI : I < 1
        · have hx2 := hid (hxx.out 2 (hea.out (.inr hI)) (by decide))
          clear hea hes het hxx hnx kC kK
          go_wp2_with fail
          refine (kK1 _).mono ?_
          rintro e w2 ⟨rfl, hb2⟩
          replace c0 := stay hb2 c0
          replace c1 := stay hb2 c1
          go_wp2_with fail
          go_ret
          exact ⟨⟨2, rfl, hx2.out⟩, bnext B1 hb2⟩
        · by_cases hI2 : next ≤ I
          · have hx2 := hid (hxx.out 200 (hes.out hA (by omega) hI2) (by decide))
            clear hea hes het hxx hnx kC kK
            go_wp2_with fail
            refine (kK1 _).mono ?_
            rintro e w2 ⟨rfl, hb2⟩
            replace c0 := stay hb2 c0
            replace c1 := stay hb2 c1
            go_wp2_with fail
            go_ret
            exact ⟨⟨200, rfl, hx2.out⟩, bnext B1 hb2⟩
          · have he2 := het.out hA (by omega) (by omega)
            have hz2 : twiceB D j = true → RT D next 140 := fun h => hxx.out 140 (by rw [he2, if_pos h]) (by decide)
            have hn2 : twiceB D j = false → ∀ m, m < j + 1 → errAt D next m = 0 := fun h => hnx.out (by rw [he2, h, if_neg (by decide)])
            replace hz2 := hid hz2
            replace hn2 := hid hn2
            clear he2 hea hes het hxx hnx kK htw
            obtain ⟨TW, hTW⟩ : ∃ TW, TW = twiceB D j := ⟨_, rfl⟩
            rw [← hTW] at hz2 hn2 kC
            go_wp2_with fail
            refine (kK1 _).mono ?_
            rintro e w2 ⟨rfl, hb2⟩
            replace c0 := stay hb2 c0
            replace c1 := stay hb2 c1
            have B2 := bnext B1 hb2
            have row2 : w2.heap[wr.heap.size]? = some (.cells (dc2 (K, I)).toArray 51 (0, 0)) := by rw [hb2.block _ hg1]; exact row.out
            replace row2 := hid row2
            have hjk : j ≤ k := by omega
            have hjc : j ≤ c := by omega
            go_wp2_with fail
            refine wp_region_drawn (Rel := fun w w' => Below w.heap.size w w') (Pr := PrV [.slice (some ⟨b, o, none⟩) k c, .int .i64 (j : Int), .slice (some ⟨b, o, none⟩) j c, .agg (dc2 (K, I)).toArray, .bool TW, .bool TW] [] (fun _ _ _ => True)) (by kernel_rfl) (by kernel_rfl) (drew_below _) bel_tr (PrV.mono (fun _ _ _ _ _ _ => trivial)) ?_ ?_
            · refine ⟨?_, ?_, ?_, ?_, ?_, ?_, trivial⟩
              · exact fun ac w hR hd hk K hK => yes (want_n rfl) (wp_mv _ rfl _ (get_keep (hk 0 (no_dst (by kernel_rfl))) rfl) (hK _ w (PrV.is rfl rfl) (Below.refl _ _)))
              · exact fun ac w hR hd hk K hK => yes (want_n rfl) (wp_mv _ rfl _ (get_keep (hk 5 (no_dst (by kernel_rfl))) rfl) (hK _ w (PrV.is rfl rfl) (Below.refl _ _)))
              · intro ac w hR hd hk Kx hK
                have e33 : ac.tmps[33]?.getD undef = (.slice (some ⟨b, o, none⟩) k c : Value) := slot ((hd 0 _ 33 rfl rfl rfl).val rfl)
                have e34 : ac.tmps[34]?.getD undef = (.int .i64 (j : Int) : Value) := slot ((hd 1 _ 34 rfl rfl rfl).val rfl)
                have i1 := hjk
                have i2 := hkc
                have i3 := hjc
                have i4 := hl
                refine yes (want_n rfl) ?_
                have hv := hid (hK (.slice (some ⟨b, o, none⟩) j c) w (PrV.is rfl rfl) (Below.refl _ _))
                go_simp
                refine kq hv.out ?_
                simp
              · exact fun ac w hR hd hk Kx hK => yes (want_n rfl) (wp_load_row 51 _ rfl wr.heap.size (get_keep (hk 6 (no_dst (by kernel_rfl))) rfl) 51 (dc2 (K, I)).toArray (0, 0) _ (by rw [hR.block _ (by have := hb2.size; omega)]; exact row2.out) Try.underlying51 rfl (by kernel_rfl) (hK _ w (PrV.is rfl rfl) (Below.refl _ _)))
              · exact fun ac w hR hd hk Kx hK => yes (want_n rfl) (wp_callv 22 _ _ rfl _ Try.func22 rfl rfl _ (args2 ((hd 2 _ 35 rfl rfl rfl).val rfl) ((hd 3 _ 36 rfl rfl rfl).val rfl)) (kC.out w (bnext hb2 hR)) (by rintro e w' ⟨rfl, hb⟩; exact ⟨_, rfl, hK _ w' (PrV.is rfl rfl) (hb)⟩))
              · exact fun ac w hR hd hk Kx hK => yes (want_n rfl) (wp_as _ rfl _ ((hd 4 _ 37 rfl rfl rfl).val rfl) (hK _ w (PrV.is rfl rfl) (Below.refl _ _)))
            · intro a w5 hdf hsz hkp hval hRw
              obtain ⟨f, hf⟩ : ∃ f, f = fun d => a.tmps.getD d undef := ⟨_, rfl⟩
              have h32 : f 32 = .bool TW := by rw [hf]; exact (hval 5 _ 32 rfl rfl).val rfl
              have hfa := act_filled hdf hsz hkp
              rw [← hf] at hfa
              rw [hfa]
              clear hdf hsz hkp hval hfa hf
              clear a
              simp only [fillAll, List.set_cons_zero, List.set_cons_succ, h32]
              clear h32
              have B5 := bnext B2 hRw
              replace hTW := hid hTW
              cases hT : TW with
              | true =>
                rw [hT] at hz2
                have hx2 := hid (hz2.out rfl)
                go_wp2_with fail
                go_ret
                exact ⟨⟨140, rfl, hx2.out⟩, B5⟩
              | false =>
                rw [hT] at hn2
                have hn3 := hid (hn2.out rfl)
                go_wp2_with fail
                go_roundw
                case rel => exact ⟨j + 1, by omega, by go_num, hn3, B5⟩
                case measure => simp [intOf]; omega
    · have hje : j = k := by omega
      subst hje
      go_wp2
      go_ret
      exact ⟨⟨0, rfl, .inr ⟨by rw [hn.out]; omega, .inl ⟨rfl, fun m hm => hok.out m (by rw [← hn.out]; exact hm)⟩⟩⟩, hb⟩

end Go.Proofs.Ytphkdjacladcpaa
