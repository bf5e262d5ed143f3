/- SetFirst: the lowest nodes of a set. -/
import Derived.Test.YtebdlcgegdobkaaDoorVals2
namespace Go.Proofs.YtebdlcgegdobkaaDoor
open Go.RowKit

theorem cnt_low (s m : Nat) (hm : m ≤ cnt s) : cnt (lowk s m 32) = m := by
  rw [lowk_cnt s m (Nat.le_refl 32)]
  unfold cnt lst at hm
  omega

theorem cnt_rest (s m : Nat) : cnt (s &&& (4294967295 - lowk s m 32)) = cnt s - m := by
  unfold cnt
  rw [lst_rest, List.length_drop]

theorem low_cut (s m : Nat) (h0 : m ≠ 0) (h1 : m < cnt s) : ∃ x y : Nat, (L2 ((lst s).take m))[m - 1]? = some (x : Int) ∧ (L2 ((lst s).drop m))[0]? = some (y : Int) ∧ (x : Int) < (y : Int) := by
  unfold cnt at h1
  have hp := rising s 32
  have e1 : m - 1 < (lst s).length := by omega
  refine ⟨(lst s)[m - 1], (lst s)[m], ?_, ?_, ?_⟩
  · unfold L2
    rw [List.getElem?_map, List.getElem?_take, if_pos (by omega), List.getElem?_eq_getElem e1]; rfl
  · unfold L2
    rw [List.getElem?_map, List.getElem?_drop, List.getElem?_eq_getElem (by omega : m + 0 < (lst s).length)]; rfl
  · have := List.pairwise_iff_getElem.1 hp (m - 1) m e1 h1 (by omega)
    exact Int.ofNat_lt.2 this

set_option maxRecDepth 100000 in
set_option maxHeartbeats 4000000 in
theorem setfirst_any (s : Nat) (n : Int) (hs : s < 4294967296) (h63 : n ≤ 9223372036854775807) (h63' : -9223372036854775808 ≤ n) (w : World) :
    Calls Tryd.prog 6 #[.int .u32 (s : Int), .int .i64 n] w fun e w' => e = .returned (.bool true) ∧ Below w.heap.size w w' := by
  have hc := cnt_le s
  have kf := fun w => first_any s n hs w
  have kc := fun w => count_any s hs w
  by_cases h1 : n < 0
  · rw [show firstP s n = (0, false) by unfold firstP; rw [if_pos (.inl h1)]] at kf
    have d1 : decide (n < 0) = true := by simpa using h1
    go_enter Tryd.func6, Tryd.ntmps6
    go_wp2_with fail
    refine (kf _).mono ?_
    rintro e w1 ⟨rfl, hb1⟩
    go_wp2_with fail
    refine (awake_any _).mono ?_
    rintro e w2 ⟨rfl, hb2⟩
    go_wp2
    go_ret
    exact ⟨rfl, bnext hb1 hb2⟩
  · have d1 : decide (n < 0) = false := by simpa using h1
    by_cases h2 : (cnt s : Int) < n
    · rw [show firstP s n = (0, false) by unfold firstP; rw [if_pos (.inr h2)]] at kf
      have d2 : decide ((cnt s : Int) < n) = true := by simpa using h2
      go_enter Tryd.func6, Tryd.ntmps6
      go_wp2_with fail
      refine (kf _).mono ?_
      rintro e w1 ⟨rfl, hb1⟩
      go_wp2_with fail
      refine (kc _).mono ?_
      rintro e w2 ⟨rfl, hb2⟩
      go_wp2_with fail
      refine (awake_any _).mono ?_
      rintro e w3 ⟨rfl, hb3⟩
      go_wp2
      go_ret
      exact ⟨rfl, bnext (bnext hb1 hb2) hb3⟩
    · obtain ⟨m, rfl⟩ : ∃ m : Nat, n = (m : Int) := ⟨n.toNat, by omega⟩
      rw [show firstP s (m : Int) = (lowk s m 32, true) by unfold firstP; rw [if_neg (by omega), Int.toNat_natCast]] at kf
      have hml : m ≤ cnt s := by omega
      have hF := lowk_lt s m (Nat.le_refl 32)
      have hR : s &&& (4294967295 - lowk s m 32) < 4294967296 := Nat.lt_of_le_of_lt Nat.and_le_left hs
      have e1 := u32_andNot_nat s (lowk s m 32) hs hF
      have k1 := fun w => count_any (lowk s m 32) hF w
      rw [cnt_low s m hml] at k1
      have k2 := fun w => within_any (lowk s m 32) s hF hs w
      have hw0 : lowk s m 32 &&& (4294967295 - s) = 0 := (within_low s m).resolve_right (fun h => h hs)
      rw [show decide (lowk s m 32 &&& (4294967295 - s) = 0) = true by simpa using hw0] at k2
      have k3 := fun w => count_any _ hR w
      rw [cnt_rest] at k3
      have k5 := fun w => list_any (lowk s m 32) hF w
      rw [lst_low] at k5
      have k6 := fun w => list_any _ hR w
      rw [lst_rest] at k6
      have hlA : (L2 ((lst s).take m)).length = m := by simp [L2]; unfold cnt at hml; omega
      have hlB : (L2 ((lst s).drop m)).length = cnt s - m := by simp [L2]; rfl
      have hcut := low_cut s m
      obtain ⟨q, hq⟩ : ∃ q : Nat, q = cnt s - m := ⟨_, rfl⟩
      rw [← hq] at hlB k3
      have hqs : (cnt s : Int) - (m : Int) = (q : Int) := by omega
      have hlt : m < cnt s ↔ q ≠ 0 := by omega
      rw [hlt] at hcut
      have hq32 : q ≤ 32 := by omega
      have hm32 : m ≤ 32 := by omega
      generalize lowk s m 32 = F at *
      generalize s &&& (4294967295 - F) = R at *
      generalize L2 ((lst s).take m) = LA at *
      generalize L2 ((lst s).drop m) = LB at *
      generalize hC : cnt s = C at *
      replace hC := hid hC
      replace hq := hid hq
      replace hlt := hid hlt
      replace hw0 := hid hw0
      clear h1 h2 d1
      go_enter Tryd.func6, Tryd.ntmps6
      go_wp2_with fail
      refine (kf _).mono ?_
      rintro e w1 ⟨rfl, hb1⟩
      go_wp2_with fail
      refine (k1 _).mono ?_
      rintro e w2 ⟨rfl, hb2⟩
      go_wp2_with fail
      refine (k2 _).mono ?_
      rintro e w3 ⟨rfl, rfl⟩
      go_wp2_with fail
      refine (k3 _).mono ?_
      rintro e w4 ⟨rfl, hb4⟩
      go_wp2_with fail
      refine (kc _).mono ?_
      rintro e w5 ⟨rfl, hb5⟩
      have B5 := bnext (bnext (bnext hb1 hb2) hb4) hb5
      go_wp2_with fail
      refine (k5 _).mono ?_
      rintro e w6 ⟨vA, rfl, hoA, hb6⟩
      go_wp2_with fail
      refine (k6 _).mono ?_
      rintro e w7 ⟨vB, rfl, hoB, hb7⟩
      have BB := bnext (bnext B5 hb6) hb7
      replace hoA := owns_below hoA hb7
      obtain ⟨aA, cA, rfl, hcA⟩ := owns_form hoA
      obtain ⟨aB, cB, rfl, hcB⟩ := owns_form hoB
      have atA := owns_cat hoA
      have atB := owns_cat hoB
      rw [hlA] at hoA
      rw [hlB] at hoB
      replace hoA := hid hoA
      replace hoB := hid hoB
      rw [hlA, hlB]
      replace hcA := hid hcA
      replace hcB := hid hcB
      generalize hnA : m = nA at *
      generalize hnB : q = nB at *
      clear hnA hnB
      go_wp2_with fail
      by_cases hA : nA = 0
      · clear hcut kf k1 k2 k3 k5 k6 kc
        refine wp_region_drawn (Rel := fun w w' => Below w.heap.size w w') (Pr := fun q v _ => v = ([.slice aA nA cA, .int .i64 (nA : Int), .bool true, .bool true, undef, undef, undef, .bool true, .bool true, undef, undef, undef, undef, undef, undef, undef, undef, undef, undef, .bool true, .bool true, .bool true, .bool true, .bool true]).getD q undef) (by kernel_rfl) (by kernel_rfl) ⟨rfl, rfl, rfl, Nat.le_refl _, fun _ _ => rfl⟩ bel_tr (fun _ _ _ _ h _ => h) ?_ ?_
        · refine ⟨?_, ?_, ?_, ?_, ?_, ?_, ?_, ?_, ?_, ?_, ?_, ?_, ?_, ?_, ?_, ?_, ?_, ?_, ?_, ?_, ?_, ?_, ?_, ?_, trivial⟩
          · exact fun a w hR hd hk K hK => yes (want_n rfl) (wp_mv _ rfl _ (get_keep (hk 8 (no_dst (by kernel_rfl))) rfl) (hK _ w rfl (Below.refl _ _)))
          · exact fun a w hR hd hk K hK => yes (want_n rfl) (wp_len22 59 _ _ _ (hd 0 _ 59 rfl rfl rfl) (hK _ w rfl (Below.refl _ _)))
          · exact fun a w hR hd hk K hK => yes (want_n rfl) (wp_bin _ _ _ _ _ rfl _ _ _ (hd 1 _ 60 rfl rfl rfl) rfl rfl (eqz_t hA w) (hK _ w rfl (Below.refl _ _)))
          · exact fun a w hR hd hk K hK => yes (want_n rfl) (wp_mv _ rfl _ (hd 2 _ 61 rfl rfl rfl) (hK _ w rfl (Below.refl _ _)))
          · exact fun a w hR hd hk K hK => nope (want_f rfl rfl (hd 3 _ 62 rfl rfl rfl) (by decide)) (hK _ w rfl (Below.refl _ _))
          · exact fun a w hR hd hk K hK => nope (want_f rfl rfl (hd 3 _ 62 rfl rfl rfl) (by decide)) (hK _ w rfl (Below.refl _ _))
          · exact fun a w hR hd hk K hK => nope (want_f rfl rfl (hd 3 _ 62 rfl rfl rfl) (by decide)) (hK _ w rfl (Below.refl _ _))
          · exact fun a w hR hd hk K hK => yes (want_n rfl) (wp_pick _ _ _ rfl true _ (hd 3 _ 62 rfl rfl rfl) rfl (hK _ w rfl (Below.refl _ _)))
          · exact fun a w hR hd hk K hK => yes (want_n rfl) (wp_mv _ rfl _ (hd 7 _ 66 rfl rfl rfl) (hK _ w rfl (Below.refl _ _)))
          · exact fun a w hR hd hk K hK => nope (want_f rfl rfl (hd 8 _ 67 rfl rfl rfl) (by decide)) (hK _ w rfl (Below.refl _ _))
          · exact fun a w hR hd hk K hK => nope (want_f rfl rfl (hd 8 _ 67 rfl rfl rfl) (by decide)) (hK _ w rfl (Below.refl _ _))
          · exact fun a w hR hd hk K hK => nope (want_f rfl rfl (hd 8 _ 67 rfl rfl rfl) (by decide)) (hK _ w rfl (Below.refl _ _))
          · exact fun a w hR hd hk K hK => nope (want_f rfl rfl (hd 8 _ 67 rfl rfl rfl) (by decide)) (hK _ w rfl (Below.refl _ _))
          · exact fun a w hR hd hk K hK => nope (want_f rfl rfl (hd 8 _ 67 rfl rfl rfl) (by decide)) (hK _ w rfl (Below.refl _ _))
          · exact fun a w hR hd hk K hK => nope (want_f rfl rfl (hd 8 _ 67 rfl rfl rfl) (by decide)) (hK _ w rfl (Below.refl _ _))
          · exact fun a w hR hd hk K hK => nope (want_f rfl rfl (hd 8 _ 67 rfl rfl rfl) (by decide)) (hK _ w rfl (Below.refl _ _))
          · exact fun a w hR hd hk K hK => nope (want_f rfl rfl (hd 8 _ 67 rfl rfl rfl) (by decide)) (hK _ w rfl (Below.refl _ _))
          · exact fun a w hR hd hk K hK => nope (want_f rfl rfl (hd 8 _ 67 rfl rfl rfl) (by decide)) (hK _ w rfl (Below.refl _ _))
          · exact fun a w hR hd hk K hK => nope (want_f rfl rfl (hd 8 _ 67 rfl rfl rfl) (by decide)) (hK _ w rfl (Below.refl _ _))
          · exact fun a w hR hd hk K hK => yes (want_n rfl) (wp_pick _ _ _ rfl true _ (hd 8 _ 67 rfl rfl rfl) rfl (hK _ w rfl (Below.refl _ _)))
          · exact fun a w hR hd hk K hK => yes (want_n rfl) (wp_mv _ rfl _ (hd 19 _ 78 rfl rfl rfl) (hK _ w rfl (Below.refl _ _)))
          · exact fun a w hR hd hk K hK => yes (want_g rfl rfl (hd 20 _ 79 rfl rfl rfl)) (wp_callv 18 _ _ rfl _ Tryd.func18 rfl rfl _ args0 (awake_any w) (by rintro e w' ⟨rfl, hb⟩; exact ⟨_, rfl, hK _ w' rfl hb⟩))
          · exact fun a w hR hd hk K hK => yes (want_n rfl) (wp_pick _ _ _ rfl true _ (hd 20 _ 79 rfl rfl rfl) (hd 21 _ 80 rfl rfl rfl) (hK _ w rfl (Below.refl _ _)))
          · exact fun a w hR hd hk K hK => yes (want_n rfl) (wp_as _ rfl _ (hd 22 _ 81 rfl rfl rfl) (hK _ w rfl (Below.refl _ _)))
        · intro a w13 hdf hsz hkp hval hRw
          obtain ⟨f, hf⟩ : ∃ f, f = fun d => a.tmps.getD d undef := ⟨_, rfl⟩
          have h4' : f 4 = .bool true := by rw [hf]; exact hval 23 _ 4 rfl rfl
          have hfa := act_filled hdf hsz hkp
          rw [← hf] at hfa
          rw [hfa]
          clear hdf hsz hkp hval hfa hf
          clear a
          simp only [fillAll, List.set_cons_zero, List.set_cons_succ, h4']
          go_wp2
          go_ret
          exact ⟨rfl, bnext BB hRw⟩
      · by_cases hB : nB = 0
        · clear hcut kf k1 k2 k3 k5 k6 kc
          refine wp_region_drawn (Rel := fun w w' => Below w.heap.size w w') (Pr := fun q v _ => v = ([.slice aA nA cA, .int .i64 (nA : Int), .bool false, .bool false, .slice aB nB cB, .int .i64 (nB : Int), .bool true, .bool true, .bool true, undef, undef, undef, undef, undef, undef, undef, undef, undef, undef, .bool true, .bool true, .bool true, .bool true, .bool true]).getD q undef) (by kernel_rfl) (by kernel_rfl) ⟨rfl, rfl, rfl, Nat.le_refl _, fun _ _ => rfl⟩ bel_tr (fun _ _ _ _ h _ => h) ?_ ?_
          · refine ⟨?_, ?_, ?_, ?_, ?_, ?_, ?_, ?_, ?_, ?_, ?_, ?_, ?_, ?_, ?_, ?_, ?_, ?_, ?_, ?_, ?_, ?_, ?_, ?_, trivial⟩
            · exact fun a w hR hd hk K hK => yes (want_n rfl) (wp_mv _ rfl _ (get_keep (hk 8 (no_dst (by kernel_rfl))) rfl) (hK _ w rfl (Below.refl _ _)))
            · exact fun a w hR hd hk K hK => yes (want_n rfl) (wp_len22 59 _ _ _ (hd 0 _ 59 rfl rfl rfl) (hK _ w rfl (Below.refl _ _)))
            · exact fun a w hR hd hk K hK => yes (want_n rfl) (wp_bin _ _ _ _ _ rfl _ _ _ (hd 1 _ 60 rfl rfl rfl) rfl rfl (eqz_f hA w) (hK _ w rfl (Below.refl _ _)))
            · exact fun a w hR hd hk K hK => yes (want_n rfl) (wp_mv _ rfl _ (hd 2 _ 61 rfl rfl rfl) (hK _ w rfl (Below.refl _ _)))
            · exact fun a w hR hd hk K hK => yes (want_g rfl rfl (hd 3 _ 62 rfl rfl rfl)) (wp_mv _ rfl _ (get_keep (hk 9 (no_dst (by kernel_rfl))) rfl) (hK _ w rfl (Below.refl _ _)))
            · exact fun a w hR hd hk K hK => yes (want_g rfl rfl (hd 3 _ 62 rfl rfl rfl)) (wp_len22 63 _ _ _ (hd 4 _ 63 rfl rfl rfl) (hK _ w rfl (Below.refl _ _)))
            · exact fun a w hR hd hk K hK => yes (want_g rfl rfl (hd 3 _ 62 rfl rfl rfl)) (wp_bin _ _ _ _ _ rfl _ _ _ (hd 5 _ 64 rfl rfl rfl) rfl rfl (eqz_t hB w) (hK _ w rfl (Below.refl _ _)))
            · exact fun a w hR hd hk K hK => yes (want_n rfl) (wp_pick _ _ _ rfl false _ (hd 3 _ 62 rfl rfl rfl) (hd 6 _ 65 rfl rfl rfl) (hK _ w rfl (Below.refl _ _)))
            · exact fun a w hR hd hk K hK => yes (want_n rfl) (wp_mv _ rfl _ (hd 7 _ 66 rfl rfl rfl) (hK _ w rfl (Below.refl _ _)))
            · exact fun a w hR hd hk K hK => nope (want_f rfl rfl (hd 8 _ 67 rfl rfl rfl) (by decide)) (hK _ w rfl (Below.refl _ _))
            · exact fun a w hR hd hk K hK => nope (want_f rfl rfl (hd 8 _ 67 rfl rfl rfl) (by decide)) (hK _ w rfl (Below.refl _ _))
            · exact fun a w hR hd hk K hK => nope (want_f rfl rfl (hd 8 _ 67 rfl rfl rfl) (by decide)) (hK _ w rfl (Below.refl _ _))
            · exact fun a w hR hd hk K hK => nope (want_f rfl rfl (hd 8 _ 67 rfl rfl rfl) (by decide)) (hK _ w rfl (Below.refl _ _))
            · exact fun a w hR hd hk K hK => nope (want_f rfl rfl (hd 8 _ 67 rfl rfl rfl) (by decide)) (hK _ w rfl (Below.refl _ _))
            · exact fun a w hR hd hk K hK => nope (want_f rfl rfl (hd 8 _ 67 rfl rfl rfl) (by decide)) (hK _ w rfl (Below.refl _ _))
            · exact fun a w hR hd hk K hK => nope (want_f rfl rfl (hd 8 _ 67 rfl rfl rfl) (by decide)) (hK _ w rfl (Below.refl _ _))
            · exact fun a w hR hd hk K hK => nope (want_f rfl rfl (hd 8 _ 67 rfl rfl rfl) (by decide)) (hK _ w rfl (Below.refl _ _))
            · exact fun a w hR hd hk K hK => nope (want_f rfl rfl (hd 8 _ 67 rfl rfl rfl) (by decide)) (hK _ w rfl (Below.refl _ _))
            · exact fun a w hR hd hk K hK => nope (want_f rfl rfl (hd 8 _ 67 rfl rfl rfl) (by decide)) (hK _ w rfl (Below.refl _ _))
            · exact fun a w hR hd hk K hK => yes (want_n rfl) (wp_pick _ _ _ rfl true _ (hd 8 _ 67 rfl rfl rfl) rfl (hK _ w rfl (Below.refl _ _)))
            · exact fun a w hR hd hk K hK => yes (want_n rfl) (wp_mv _ rfl _ (hd 19 _ 78 rfl rfl rfl) (hK _ w rfl (Below.refl _ _)))
            · exact fun a w hR hd hk K hK => yes (want_g rfl rfl (hd 20 _ 79 rfl rfl rfl)) (wp_callv 18 _ _ rfl _ Tryd.func18 rfl rfl _ args0 (awake_any w) (by rintro e w' ⟨rfl, hb⟩; exact ⟨_, rfl, hK _ w' rfl hb⟩))
            · exact fun a w hR hd hk K hK => yes (want_n rfl) (wp_pick _ _ _ rfl true _ (hd 20 _ 79 rfl rfl rfl) (hd 21 _ 80 rfl rfl rfl) (hK _ w rfl (Below.refl _ _)))
            · exact fun a w hR hd hk K hK => yes (want_n rfl) (wp_as _ rfl _ (hd 22 _ 81 rfl rfl rfl) (hK _ w rfl (Below.refl _ _)))
          · intro a w13 hdf hsz hkp hval hRw
            obtain ⟨f, hf⟩ : ∃ f, f = fun d => a.tmps.getD d undef := ⟨_, rfl⟩
            have h4' : f 4 = .bool true := by rw [hf]; exact hval 23 _ 4 rfl rfl
            have hfa := act_filled hdf hsz hkp
            rw [← hf] at hfa
            rw [hfa]
            clear hdf hsz hkp hval hfa hf
            clear a
            simp only [fillAll, List.set_cons_zero, List.set_cons_succ, h4']
            go_wp2
            go_ret
            exact ⟨rfl, bnext BB hRw⟩
        · obtain ⟨x, y, hx, hy, hxy⟩ := hcut hA hB
          obtain ⟨gA, oA, rfl, ccA⟩ := atA (by intro e; rw [List.map_eq_nil_iff] at e; rw [e] at hx; simp at hx)
          obtain ⟨gB, oB, rfl, ccB⟩ := atB (by intro e; rw [List.map_eq_nil_iff] at e; rw [e] at hy; simp at hy)
          have oA0 : oA = 0 := by rcases hoA.out.2 with ⟨h, _⟩ | ⟨g, cap, cur, h, _⟩; cases h; cases h; rfl
          have oB0 : oB = 0 := by rcases hoB.out.2 with ⟨h, _⟩ | ⟨g, cap, cur, h, _⟩; cases h; cases h; rfl
          subst oA0 oB0
          have cA1 : w7.cell? ⟨gA, nA - 1, none⟩ = some (.int .i64 (x : Int)) := by
            have hl : nA - 1 < (LA.map I).length := by rw [List.length_map, hlA]; omega
            have := ccA (nA - 1) hl
            rw [Nat.zero_add] at this
            rw [this, List.getElem_map]
            rw [List.getElem?_eq_getElem (by simpa using hl)] at hx
            rw [Option.some.inj hx]; rfl
          have cB1 : w7.cell? ⟨gB, 0, none⟩ = some (.int .i64 (y : Int)) := by
            have hl : 0 < (LB.map I).length := by rw [List.length_map, hlB]; omega
            have := ccB 0 hl
            rw [this, List.getElem_map]
            rw [List.getElem?_eq_getElem (by simpa using hl)] at hy
            rw [Option.some.inj hy]; rfl
          have ltA := World.block_lt_of_cell? w7 _ cA1
          have ltB := World.block_lt_of_cell? w7 _ cB1
          have hA32 := hm32
          generalize (x : Int) = x at *
          generalize (y : Int) = y at *
          clear hcut kf k1 k2 k3 k5 k6 kc ccA ccB hx hy atA atB
          refine wp_region_drawn (Rel := fun w w' => Below w.heap.size w w') (Pr := fun q v _ => v = ([.slice (some ⟨gA, 0, none⟩) nA cA, .int .i64 (nA : Int), .bool false, .bool false, .slice (some ⟨gB, 0, none⟩) nB cB, .int .i64 (nB : Int), .bool false, .bool false, .bool false, .slice (some ⟨gA, 0, none⟩) nA cA, .slice (some ⟨gA, 0, none⟩) nA cA, .int .i64 (nA : Int), .int .i64 ((nA - 1 : Nat) : Int), .pointer (some ⟨gA, nA - 1, none⟩), .int .i64 x, .slice (some ⟨gB, 0, none⟩) nB cB, .pointer (some ⟨gB, 0, none⟩), .int .i64 y, .bool true, .bool true, .bool true, .bool true, .bool true, .bool true]).getD q undef) (by kernel_rfl) (by kernel_rfl) ⟨rfl, rfl, rfl, Nat.le_refl _, fun _ _ => rfl⟩ bel_tr (fun _ _ _ _ h _ => h) ?_ ?_
          · refine ⟨?_, ?_, ?_, ?_, ?_, ?_, ?_, ?_, ?_, ?_, ?_, ?_, ?_, ?_, ?_, ?_, ?_, ?_, ?_, ?_, ?_, ?_, ?_, ?_, trivial⟩
            · exact fun a w hR hd hk K hK => yes (want_n rfl) (wp_mv _ rfl _ (get_keep (hk 8 (no_dst (by kernel_rfl))) rfl) (hK _ w rfl (Below.refl _ _)))
            · exact fun a w hR hd hk K hK => yes (want_n rfl) (wp_len22 59 _ _ _ (hd 0 _ 59 rfl rfl rfl) (hK _ w rfl (Below.refl _ _)))
            · exact fun a w hR hd hk K hK => yes (want_n rfl) (wp_bin _ _ _ _ _ rfl _ _ _ (hd 1 _ 60 rfl rfl rfl) rfl rfl (eqz_f hA w) (hK _ w rfl (Below.refl _ _)))
            · exact fun a w hR hd hk K hK => yes (want_n rfl) (wp_mv _ rfl _ (hd 2 _ 61 rfl rfl rfl) (hK _ w rfl (Below.refl _ _)))
            · exact fun a w hR hd hk K hK => yes (want_g rfl rfl (hd 3 _ 62 rfl rfl rfl)) (wp_mv _ rfl _ (get_keep (hk 9 (no_dst (by kernel_rfl))) rfl) (hK _ w rfl (Below.refl _ _)))
            · exact fun a w hR hd hk K hK => yes (want_g rfl rfl (hd 3 _ 62 rfl rfl rfl)) (wp_len22 63 _ _ _ (hd 4 _ 63 rfl rfl rfl) (hK _ w rfl (Below.refl _ _)))
            · exact fun a w hR hd hk K hK => yes (want_g rfl rfl (hd 3 _ 62 rfl rfl rfl)) (wp_bin _ _ _ _ _ rfl _ _ _ (hd 5 _ 64 rfl rfl rfl) rfl rfl (eqz_f hB w) (hK _ w rfl (Below.refl _ _)))
            · exact fun a w hR hd hk K hK => yes (want_n rfl) (wp_pick _ _ _ rfl false _ (hd 3 _ 62 rfl rfl rfl) (hd 6 _ 65 rfl rfl rfl) (hK _ w rfl (Below.refl _ _)))
            · exact fun a w hR hd hk K hK => yes (want_n rfl) (wp_mv _ rfl _ (hd 7 _ 66 rfl rfl rfl) (hK _ w rfl (Below.refl _ _)))
            · exact fun a w hR hd hk K hK => yes (want_g rfl rfl (hd 8 _ 67 rfl rfl rfl)) (wp_mv _ rfl _ (get_keep (hk 8 (no_dst (by kernel_rfl))) rfl) (hK _ w rfl (Below.refl _ _)))
            · exact fun a w hR hd hk K hK => yes (want_g rfl rfl (hd 8 _ 67 rfl rfl rfl)) (wp_mv _ rfl _ (get_keep (hk 8 (no_dst (by kernel_rfl))) rfl) (hK _ w rfl (Below.refl _ _)))
            · exact fun a w hR hd hk K hK => yes (want_g rfl rfl (hd 8 _ 67 rfl rfl rfl)) (wp_len22 69 _ _ _ (hd 10 _ 69 rfl rfl rfl) (hK _ w rfl (Below.refl _ _)))
            · exact fun a w hR hd hk K hK => yes (want_g rfl rfl (hd 8 _ 67 rfl rfl rfl)) (wp_bin _ _ _ _ _ rfl _ _ _ (hd 11 _ 70 rfl rfl rfl) rfl rfl (sub_one hA hA32 w) (hK _ w rfl (Below.refl _ _)))
            · exact fun a w hR hd hk K hK => yes (want_g rfl rfl (hd 8 _ 67 rfl rfl rfl)) (wp_idx22 68 71 gA nA cA (nA - 1) (hd 9 _ 68 rfl rfl rfl) (hd 12 _ 71 rfl rfl rfl) (by omega) (hK _ w rfl (Below.refl _ _)))
            · exact fun a w hR hd hk K hK => yes (want_g rfl rfl (hd 8 _ 67 rfl rfl rfl)) (wp_ld3 72 _ _ (hd 13 _ 72 rfl rfl rfl) ((hR.cell (p := ⟨gA, nA - 1, none⟩) ltA).trans cA1) (hK _ w rfl (Below.refl _ _)))
            · exact fun a w hR hd hk K hK => yes (want_g rfl rfl (hd 8 _ 67 rfl rfl rfl)) (wp_mv _ rfl _ (get_keep (hk 9 (no_dst (by kernel_rfl))) rfl) (hK _ w rfl (Below.refl _ _)))
            · exact fun a w hR hd hk K hK => yes (want_g rfl rfl (hd 8 _ 67 rfl rfl rfl)) (wp_idx22c 74 gB nB cB (hd 15 _ 74 rfl rfl rfl) (by omega) (hK _ w rfl (Below.refl _ _)))
            · exact fun a w hR hd hk K hK => yes (want_g rfl rfl (hd 8 _ 67 rfl rfl rfl)) (wp_ld3 75 _ _ (hd 16 _ 75 rfl rfl rfl) ((hR.cell (p := ⟨gB, 0, none⟩) ltB).trans cB1) (hK _ w rfl (Below.refl _ _)))
            · exact fun a w hR hd hk K hK => yes (want_g rfl rfl (hd 8 _ 67 rfl rfl rfl)) (wp_bin _ _ _ _ _ rfl _ _ _ (hd 14 _ 73 rfl rfl rfl) (hd 17 _ 76 rfl rfl rfl) rfl (lss_t hxy w) (hK _ w rfl (Below.refl _ _)))
            · exact fun a w hR hd hk K hK => yes (want_n rfl) (wp_pick _ _ _ rfl false _ (hd 8 _ 67 rfl rfl rfl) (hd 18 _ 77 rfl rfl rfl) (hK _ w rfl (Below.refl _ _)))
            · exact fun a w hR hd hk K hK => yes (want_n rfl) (wp_mv _ rfl _ (hd 19 _ 78 rfl rfl rfl) (hK _ w rfl (Below.refl _ _)))
            · exact fun a w hR hd hk K hK => yes (want_g rfl rfl (hd 20 _ 79 rfl rfl rfl)) (wp_callv 18 _ _ rfl _ Tryd.func18 rfl rfl _ args0 (awake_any w) (by rintro e w' ⟨rfl, hb⟩; exact ⟨_, rfl, hK _ w' rfl hb⟩))
            · exact fun a w hR hd hk K hK => yes (want_n rfl) (wp_pick _ _ _ rfl true _ (hd 20 _ 79 rfl rfl rfl) (hd 21 _ 80 rfl rfl rfl) (hK _ w rfl (Below.refl _ _)))
            · exact fun a w hR hd hk K hK => yes (want_n rfl) (wp_as _ rfl _ (hd 22 _ 81 rfl rfl rfl) (hK _ w rfl (Below.refl _ _)))
          · intro a w13 hdf hsz hkp hval hRw
            obtain ⟨f, hf⟩ : ∃ f, f = fun d => a.tmps.getD d undef := ⟨_, rfl⟩
            have h4' : f 4 = .bool true := by rw [hf]; exact hval 23 _ 4 rfl rfl
            have hfa := act_filled hdf hsz hkp
            rw [← hf] at hfa
            rw [hfa]
            clear hdf hsz hkp hval hfa hf
            clear a
            simp only [fillAll, List.set_cons_zero, List.set_cons_succ, h4']
            go_wp2
            go_ret
            exact ⟨rfl, bnext BB hRw⟩

end Go.Proofs.YtebdlcgegdobkaaDoor
