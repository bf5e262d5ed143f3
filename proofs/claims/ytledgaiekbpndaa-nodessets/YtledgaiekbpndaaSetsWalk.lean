/- NodesSets' walk. -/
import Derived.Test.YtledgaiekbpndaaSetsP
import Derived.Test.YtledgaiekbpndaaVals
import Derived.Test.YtledgaiekbpndaaRef
namespace Go.Proofs.Ytledgaiekbpndaa
open Go.RowKit

theorem half_bd {k : Int} (h1 : -9223372036854775808 ≤ k) (h2 : k ≤ 9223372036854775807) : -9223372036854775808 ≤ Int.tdiv k 2 ∧ Int.tdiv k 2 ≤ 9223372036854775807 ∧ (0 < k → Int.tdiv k 2 ≤ k) := by
  rcases Int.le_total 0 k with h | h
  · rw [Int.tdiv_eq_ediv_of_nonneg h]
    omega
  · obtain ⟨m, rfl⟩ : ∃ m : Int, k = -m := ⟨-k, by omega⟩
    rw [Int.neg_tdiv, Int.tdiv_eq_ediv_of_nonneg (by omega)]
    omega

theorem sub_val {x : Int} {M : Nat} (h : (x - 1) % 4294967296 = (M : Int)) : IntKind.u32.wrap (x - 1) = (M : Int) := by
  rw [IntKind.wrap_u32]; exact h

theorem mask_val {n : Nat} (hn : n ≤ 32) : ((2 : Int) ^ n % 4294967296 - 1) % 4294967296 = ((2 ^ n - 1 : Nat) : Int) := by
  have hp : (2 : Nat) ^ n ≤ 4294967296 := by
    have := Nat.pow_le_pow_right (show 0 < 2 by omega) hn
    simpa using this
  have h1 : 0 < (2 : Nat) ^ n := Nat.pow_pos (by omega)
  have h2 : ((2 ^ n : Nat) : Int) = 2 ^ n := by push_cast; rfl
  rw [← h2]
  generalize 2 ^ n = x at *
  omega

def sv6p (a : Option Addr) (n c s : Nat) (k : Int) (A1 A2 A3 M : Nat) : List Value := [.int .u32 (A1 : Int), .int .u32 (s : Int), .bool true, .bool false, .bool false, .int .i64 k, .bool true, .bool true, .int .u32 (A1 : Int), .int .u32 (A2 : Int), .bool true, .bool false, .bool false, .bool false, .bool false, .slice a n c, .int .u32 (s : Int), .int .u32 (A3 : Int), .int .u32 (s : Int), .slice a n c, .int .i64 (n : Int), .int .u32 (2 ^ n % 4294967296), .int .u32 (M : Int), .int .u32 (A3 : Int), .bool false, .bool false]

def sv6n (a : Option Addr) (n c s : Nat) (k : Int) (A1 A3 M : Nat) : List Value := [.int .u32 (A1 : Int), .int .u32 (s : Int), .bool true, .bool false, .bool false, .int .i64 k, .bool false, .bool false, undef, undef, undef, undef, .bool false, .bool false, .bool false, .slice a n c, .int .u32 (s : Int), .int .u32 (A3 : Int), .int .u32 (s : Int), .slice a n c, .int .i64 (n : Int), .int .u32 (2 ^ n % 4294967296), .int .u32 (M : Int), .int .u32 (A3 : Int), .bool false, .bool false]

def sv11 (b o n c s : Nat) (k : Int) (p A1 U1 U2 T : Nat) (a7 : Option Addr) (c7 : Nat) : List Value := [.slice (some ⟨b, o, none⟩) n c, .int .i64 (p : Int), .pointer (some ⟨b, o + p * 3, none⟩), .pointer (some ⟨b, o + p * 3 + 1, none⟩), .bool true, .bool true, .slice a7 n c7, .int .u32 (U2 : Int), .slice (some ⟨b, o, none⟩) n c, .int .u32 (U1 : Int), .int .i64 (p : Int), .int .u32 ((T : Nat) : Int), .int .u32 (U2 : Int), .bool true, .bool true, .bool true, .slice a7 n c7, .int .u32 (s : Int), .int .i64 k, .int .u32 (A1 : Int), .int .u32 (A1 : Int), .bool true, .bool true, .bool true, .slice a7 n c7, undef, .slice (some ⟨b, o, none⟩) n c, undef, .bool true, .bool true, .bool true, .bool true, .bool true, .bool true]

set_option maxRecDepth 100000 in
set_option maxHeartbeats 4000000 in
theorem sets_any (a : Option Addr) (n c : Nat) (L : List Nod) (i : Int) (s : Nat) (k : Int) (w : World) (hn : L.length = n) (hl : n ≤ 4611686018427387904) (hnc : n ≤ c) (hs : s < 4294967296) (hk1 : -9223372036854775808 ≤ k) (hk2 : k ≤ 9223372036854775807) (hat : DAt w a L) :
    Calls Try.prog 5 #[.slice a n c, .int .i64 i, .agg #[.int .u32 (s : Int), .int .i64 k]] w fun e w' => e = .returned (.bool true) ∧ Below w.heap.size w w' := by
  have bl0 := below_lit w (.cells #[.int .u32 (s : Int), .int .i64 k] 43)
  cases hB : rightB L
  · replace hn := hid hn
    replace hat := hid hat
    replace hB := hid hB
    go_enter Try.func5, Try.ntmps5
    go_wp2_with fail
    go_quiet (fail)
    have B1 := below_drewN bl0 nq
    generalize (w.alloc (.cells #[.int .u32 (s : Int), .int .i64 k] 43)).drewN nq = w1 at *
    go_wp2_with fail
    refine (right_any a n c L w1 hn.out hl (hat.out.below B1)).mono ?_
    rintro e w2 ⟨rfl, hb2⟩
    rw [hB.out]
    have B2 := bnext B1 hb2
    go_wp2_with fail
    refine (awake_any _).mono ?_
    rintro e w3 ⟨rfl, hb3⟩
    have B3 := bnext B2 hb3
    go_wp2
    go_ret
    exact ⟨rfl, B3⟩
  have hr := (right_is hB).1
  rw [hn] at hr
  have hn1 := hr.1
  have hn2 := hr.2
  obtain ⟨hb1, hb2, hb3⟩ := half_bd hk1 hk2
  obtain ⟨hb1, hb2, hb3⟩ := half_bd hk1 hk2
  obtain ⟨hb1, hb2, hb3⟩ := half_bd hk1 hk2
  obtain ⟨hb1, hb2, hb3⟩ := half_bd hk1 hk2
  obtain ⟨hb1, hb2, hb3⟩ := half_bd hk1 hk2
  obtain ⟨hb1, hb2, hb3⟩ := half_bd hk1 hk2
  obtain ⟨hb1, hb2, hb3⟩ := half_bd hk1 hk2
  obtain ⟨hb1, hb2, hb3⟩ := half_bd hk1 hk2
  have hwk : IntKind.i64.wrap (Int.tdiv k 2) = Int.tdiv k 2 := by rw [IntKind.wrap_i64]; omega
  have kW1 := fun w => within_any (ableP L s k) s (ableP_lt hs) hs w
  rw [able_in L k hs] at kW1
  have kW2 := fun (h : 0 < k) w => within_any (ableP L s k) (ableP L s (Int.tdiv k 2)) (ableP_lt hs) (ableP_lt hs) w
  have hmore := fun (h : 0 < k) => able_more L hs (hb3 h)
  have hall := able_all (s := s) hB
  rw [hn] at hall
  have hpl : 2 ^ n - 1 < 4294967296 := by
    have := Nat.pow_le_pow_right (show 0 < 2 by omega) hn2
    have h3 : (2 : Nat) ^ 32 = 4294967296 := by decide
    omega
  have hand := u32_and_nat s (2 ^ n - 1) hs hpl
  rw [← hall] at hand
  have hM := mask_val hn2
  generalize hA1 : ableP L s k = A1 at *
  generalize hA2 : ableP L s (Int.tdiv k 2) = A2 at *
  generalize hA3 : ableP L s 1 = A3 at *
  generalize 2 ^ n - 1 = M at *
  replace hA1 := hid hA1
  replace hA2 := hid hA2
  replace hA3 := hid hA3
  replace hall := hid hall
  replace hmore := hid hmore
  replace hn := hid hn
  replace hat := hid hat
  replace hB := hid hB
  replace hr := hid hr
  replace hM := hid hM
  replace hand := hid hand
  replace kW1 := hid kW1
  replace kW2 := hid kW2
  replace hb3 := hid hb3
  go_enter Try.func5, Try.ntmps5
  go_wp2_with fail
  go_quiet (fail)
  have B1 := below_drewN bl0 nq
  generalize (w.alloc (.cells #[.int .u32 (s : Int), .int .i64 k] 43)).drewN nq = w1 at *
  go_wp2_with fail
  refine (right_any a n c L w1 hn.out hl (hat.out.below B1)).mono ?_
  rintro e w2 ⟨rfl, hb2'⟩
  rw [hB.out]
  have B2 := bnext B1 hb2'
  clear hb2' B1
  go_wp2_with fail
  refine (pick_any i n w2 (by omega) hl).mono ?_
  rintro e w3 ⟨p, hp, rfl, rfl⟩
  go_wp2_with fail
  refine (able_any a n c L s k _ hn.out hl hnc hs (hat.out.below B2)).mono ?_
  rintro e w4 ⟨rfl, hb4⟩
  rw [hA1.out]
  have B4 := bnext B2 hb4
  clear hb4 B2
  go_wp2_with fail
  refine (able_any a n c L s (Int.tdiv k 2) _ hn.out hl hnc hs (hat.out.below B4)).mono ?_
  rintro e w5 ⟨rfl, hb5⟩
  rw [hA2.out]
  have B5 := bnext B4 hb5
  clear hb5 B4
  have kA3 := fun w' (h : Below w5.heap.size w5 w') => able_any a n c L s 1 w' hn.out hl hnc hs (hat.out.below (bnext B5 h))
  rw [hA3.out] at kA3
  replace kA3 := hid kA3
  have dk : decide (0 < k) = true ∨ decide (0 < k) = false := by cases decide (0 < k) <;> simp
  have kF := fun w' (h : Below w5.heap.size w5 w') => fail_any a n c L (p : Int) w' hn.out hl (hat.out.below (bnext B5 h))
  replace kF := hid kF
  go_wp2_with fail
  rcases dk with dk | dk
  · have kW1 := kW1.out
    have hM := hM.out
    have hand := hand.out
    have kA3 := kA3.out
    have hkp : 0 < k := by simpa using dk
    have kW2 := kW2.out hkp
    rw [hmore.out hkp] at kW2
    refine wp_region_drawn (Rel := fun w w' => Below w.heap.size w w') (Pr := PrV (sv6p a n c s k A1 A2 A3 M) [] (fun _ _ _ => True)) (by kernel_rfl) (by kernel_rfl) (drew_below _) bel_tr (PrV.mono (fun _ _ _ _ _ _ => trivial)) ?_ ?_
    · refine ⟨?_, ?_, ?_, ?_, ?_, ?_, ?_, ?_, ?_, ?_, ?_, ?_, ?_, ?_, ?_, ?_, ?_, ?_, ?_, ?_, ?_, ?_, ?_, ?_, ?_, ?_, trivial⟩
      · exact fun ac w hR hd hk K hK => yes (want_n rfl) (wp_mv _ rfl _ (get_keep (hk 9 (no_dst (by kernel_rfl))) rfl) (hK _ w (PrV.is rfl rfl) (Below.refl _ _)))
      · exact fun ac w hR hd hk K hK => yes (want_n rfl) (wp_mv _ rfl _ (get_keep (hk 7 (no_dst (by kernel_rfl))) rfl) (hK _ w (PrV.is rfl rfl) (Below.refl _ _)))
      · exact fun ac w hR hd hk K hK => yes (want_n rfl) (wp_callv 25 _ _ rfl _ Try.func25 rfl rfl _ (args2 ((hd 0 _ 34 rfl rfl rfl).val rfl) ((hd 1 _ 35 rfl rfl rfl).val rfl)) (kW1 w) (by rintro e w' ⟨rfl, hb⟩; exact ⟨_, rfl, hK _ w' (PrV.is rfl rfl) (by subst hb; exact Below.refl _ _)⟩))
      · intro ac w hR hd hk K hK
        have e36 : ac.tmps[36]?.getD undef = (.bool true : Value) := slot ((hd 2 _ 36 rfl rfl rfl).val rfl)
        refine yes (want_n rfl) ?_
        have hv := hid (hK (.bool false) w (PrV.is rfl rfl) (Below.refl _ _))
        go_simp
        refine kq hv.out ?_
        rfl
      · exact fun ac w hR hd hk K hK => yes (want_n rfl) (wp_mv _ rfl _ ((hd 3 _ 37 rfl rfl rfl).val rfl) (hK _ w (PrV.is rfl rfl) (Below.refl _ _)))
      · exact fun ac w hR hd hk K hK => yes (want_g rfl rfl ((hd 4 _ 38 rfl rfl rfl).val rfl)) (wp_mv _ rfl _ (get_keep (hk 8 (no_dst (by kernel_rfl))) rfl) (hK _ w (PrV.is rfl rfl) (Below.refl _ _)))
      · intro ac w hR hd hk K hK
        have e39 : ac.tmps[39]?.getD undef = (.int .i64 k : Value) := slot ((hd 5 _ 39 rfl rfl rfl).val rfl)
        have dk1 := dk
        refine yes (want_g rfl rfl ((hd 4 _ 38 rfl rfl rfl).val rfl)) ?_
        have hv := hid (hK (.bool true) w (PrV.is rfl rfl) (Below.refl _ _))
        go_simp
        refine kq hv.out ?_
        rfl
      · exact fun ac w hR hd hk K hK => yes (want_g rfl rfl ((hd 4 _ 38 rfl rfl rfl).val rfl)) (wp_mv _ rfl _ ((hd 6 _ 40 rfl rfl rfl).val rfl) (hK _ w (PrV.is rfl rfl) (Below.refl _ _)))
      · exact fun ac w hR hd hk K hK => yes (want_g rfl rfl ((hd 7 _ 41 rfl rfl rfl).val rfl)) (wp_mv _ rfl _ (get_keep (hk 9 (no_dst (by kernel_rfl))) rfl) (hK _ w (PrV.is rfl rfl) (Below.refl _ _)))
      · exact fun ac w hR hd hk K hK => yes (want_g rfl rfl ((hd 7 _ 41 rfl rfl rfl).val rfl)) (wp_mv _ rfl _ (get_keep (hk 10 (no_dst (by kernel_rfl))) rfl) (hK _ w (PrV.is rfl rfl) (Below.refl _ _)))
      · exact fun ac w hR hd hk K hK => yes (want_g rfl rfl ((hd 7 _ 41 rfl rfl rfl).val rfl)) (wp_callv 25 _ _ rfl _ Try.func25 rfl rfl _ (args2 ((hd 8 _ 42 rfl rfl rfl).val rfl) ((hd 9 _ 43 rfl rfl rfl).val rfl)) (kW2 w) (by rintro e w' ⟨rfl, hb⟩; exact ⟨_, rfl, hK _ w' (PrV.is rfl rfl) (by subst hb; exact Below.refl _ _)⟩))
      · intro ac w hR hd hk K hK
        have e44 : ac.tmps[44]?.getD undef = (.bool true : Value) := slot ((hd 10 _ 44 rfl rfl rfl).val rfl)
        refine yes (want_g rfl rfl ((hd 7 _ 41 rfl rfl rfl).val rfl)) ?_
        have hv := hid (hK (.bool false) w (PrV.is rfl rfl) (Below.refl _ _))
        go_simp
        refine kq hv.out ?_
        rfl
      · exact fun ac w hR hd hk K hK => yes (want_g rfl rfl ((hd 4 _ 38 rfl rfl rfl).val rfl)) (wp_pick _ _ _ rfl true _ ((hd 7 _ 41 rfl rfl rfl).val rfl) ((hd 11 _ 45 rfl rfl rfl).val rfl) (hK _ w (PrV.is rfl rfl) (Below.refl _ _)))
      · exact fun ac w hR hd hk K hK => yes (want_n rfl) (wp_pick _ _ _ rfl false _ ((hd 4 _ 38 rfl rfl rfl).val rfl) ((hd 12 _ 46 rfl rfl rfl).val rfl) (hK _ w (PrV.is rfl rfl) (Below.refl _ _)))
      · exact fun ac w hR hd hk K hK => yes (want_n rfl) (wp_mv _ rfl _ ((hd 13 _ 47 rfl rfl rfl).val rfl) (hK _ w (PrV.is rfl rfl) (Below.refl _ _)))
      · exact fun ac w hR hd hk K hK => yes (want_g rfl rfl ((hd 14 _ 48 rfl rfl rfl).val rfl)) (wp_mv _ rfl _ (get_keep (hk 0 (no_dst (by kernel_rfl))) rfl) (hK _ w (PrV.is rfl rfl) (Below.refl _ _)))
      · exact fun ac w hR hd hk K hK => yes (want_g rfl rfl ((hd 14 _ 48 rfl rfl rfl).val rfl)) (wp_mv _ rfl _ (get_keep (hk 7 (no_dst (by kernel_rfl))) rfl) (hK _ w (PrV.is rfl rfl) (Below.refl _ _)))
      · exact fun ac w hR hd hk K hK => yes (want_g rfl rfl ((hd 14 _ 48 rfl rfl rfl).val rfl)) (wp_callv 21 _ _ rfl _ Try.func21 rfl rfl _ (args3 ((hd 15 _ 49 rfl rfl rfl).val rfl) ((hd 16 _ 50 rfl rfl rfl).val rfl) rfl) (kA3 w hR) (by rintro e w' ⟨rfl, hb⟩; exact ⟨_, rfl, hK _ w' (PrV.is rfl rfl) (hb)⟩))
      · exact fun ac w hR hd hk K hK => yes (want_g rfl rfl ((hd 14 _ 48 rfl rfl rfl).val rfl)) (wp_mv _ rfl _ (get_keep (hk 7 (no_dst (by kernel_rfl))) rfl) (hK _ w (PrV.is rfl rfl) (Below.refl _ _)))
      · exact fun ac w hR hd hk K hK => yes (want_g rfl rfl ((hd 14 _ 48 rfl rfl rfl).val rfl)) (wp_mv _ rfl _ (get_keep (hk 0 (no_dst (by kernel_rfl))) rfl) (hK _ w (PrV.is rfl rfl) (Below.refl _ _)))
      · intro ac w hR hd hk K hK
        have e53 : ac.tmps[53]?.getD undef = (.slice a n c : Value) := slot ((hd 19 _ 53 rfl rfl rfl).val rfl)
        refine yes (want_g rfl rfl ((hd 14 _ 48 rfl rfl rfl).val rfl)) ?_
        have hv := hid (hK (.int .i64 (n : Int)) w (PrV.is rfl rfl) (Below.refl _ _))
        go_simp
        refine kq hv.out ?_
        rfl
      · intro ac w hR hd hk K hK
        have e54 : ac.tmps[54]?.getD undef = (.int .i64 (n : Int) : Value) := slot ((hd 20 _ 54 rfl rfl rfl).val rfl)
        refine yes (want_g rfl rfl ((hd 14 _ 48 rfl rfl rfl).val rfl)) ?_
        have hv := hid (hK (.int .u32 (2 ^ n % 4294967296)) w (PrV.is rfl rfl) (Below.refl _ _))
        go_simp
        refine kq hv.out ?_
        exact congrArg (Value.int .u32) (IntKind.wrap_u32 _).symm
      · intro ac w hR hd hk K hK
        have e55 : ac.tmps[55]?.getD undef = (.int .u32 (2 ^ n % 4294967296) : Value) := slot ((hd 21 _ 55 rfl rfl rfl).val rfl)
        have hM1 := hM
        refine yes (want_g rfl rfl ((hd 14 _ 48 rfl rfl rfl).val rfl)) ?_
        have hv := hid (hK (.int .u32 (M : Int)) w (PrV.is rfl rfl) (Below.refl _ _))
        go_simp
        refine kq hv.out ?_
        exact congrArg (Value.int .u32) (sub_val hM).symm
      · intro ac w hR hd hk K hK
        have e52 : ac.tmps[52]?.getD undef = (.int .u32 (s : Int) : Value) := slot ((hd 18 _ 52 rfl rfl rfl).val rfl)
        have e56 : ac.tmps[56]?.getD undef = (.int .u32 (M : Int) : Value) := slot ((hd 22 _ 56 rfl rfl rfl).val rfl)
        have hA1 := hand
        refine yes (want_g rfl rfl ((hd 14 _ 48 rfl rfl rfl).val rfl)) ?_
        have hv := hid (hK (.int .u32 (A3 : Int)) w (PrV.is rfl rfl) (Below.refl _ _))
        go_simp
        refine kq hv.out ?_
        rw [← hand]
      · intro ac w hR hd hk K hK
        have e51 : ac.tmps[51]?.getD undef = (.int .u32 (A3 : Int) : Value) := slot ((hd 17 _ 51 rfl rfl rfl).val rfl)
        have e57 : ac.tmps[57]?.getD undef = (.int .u32 (A3 : Int) : Value) := slot ((hd 23 _ 57 rfl rfl rfl).val rfl)
        refine yes (want_g rfl rfl ((hd 14 _ 48 rfl rfl rfl).val rfl)) ?_
        have hv := hid (hK (.bool false) w (PrV.is rfl rfl) (Below.refl _ _))
        go_simp
        refine kq hv.out ?_
        simp
      · exact fun ac w hR hd hk K hK => yes (want_n rfl) (wp_pick _ _ _ rfl false _ ((hd 14 _ 48 rfl rfl rfl).val rfl) ((hd 24 _ 58 rfl rfl rfl).val rfl) (hK _ w (PrV.is rfl rfl) (Below.refl _ _)))
    · intro a w6 hdf hsz hkp hval hRw
      obtain ⟨f, hf⟩ : ∃ f, f = fun d => a.tmps.getD d undef := ⟨_, rfl⟩
      have h59 : f 59 = .bool false := by rw [hf]; exact (hval 25 _ 59 rfl rfl).val rfl
      have hfa := act_filled hdf hsz hkp
      rw [← hf] at hfa
      rw [hfa]
      clear hdf hsz hkp hval hfa hf
      clear a
      simp only [fillAll, List.set_cons_zero, List.set_cons_succ, h59]
      clear h59
      have B6 := bnext B5 hRw
      clear kW1 hM hand kA3 dk hRw B5
      obtain ⟨b, o, e⟩ := hat.out.place (by rw [hn.out]; omega)
      subst e
      have hpL : p < L.length := by rw [hn.out]; exact hp
      obtain ⟨x0, x1, x2⟩ := (hat.out.below B6).one hpL
      have hgo : (rightB L && placeB L.length (p : Int)) = true := by rw [hB.out, hn.out, show placeB n (p : Int) = true from decide_eq_true ⟨by omega, by omega⟩]; rfl
      cases hU : (nodAt L p).2.1
      · have kF6 := fail_any (some ⟨b, o, none⟩) n c L (p : Int) w6 hn.out hl (hat.out.below B6)
        rw [show failP L (p : Int) = ([], 180) by unfold failP; rw [hgo, Int.toNat_natCast, hU]; rfl] at kF6
        replace kF6 := told_n 0 rfl kF6
        rw [hU] at x1
        replace hU := hid hU
        replace hgo := hid hgo
        clear kF
        go_wp2_with fail
        refine kF6.mono ?_
        rintro e w7 ⟨a7, c7, rfl, hc7, ho7, hb7⟩
        have x1w := stay hb7 x1
        have B7 := bnext B6 hb7
        clear ho7 kF6 x0 x1 x2 hb7
        go_wp2_with fail
        refine (awake_any _).mono ?_
        rintro e w8 ⟨rfl, hb8⟩
        have B8 := bnext B7 hb8
        go_wp2
        go_ret
        exact ⟨rfl, B8⟩
      · have kF6 := fail_any (some ⟨b, o, none⟩) n c L (p : Int) w6 hn.out hl (hat.out.below B6)
        rw [show failP L (p : Int) = (failN L p, 0) by unfold failP; rw [hgo, Int.toNat_natCast, hU]; rfl] at kF6
        replace kF6 := told_n n (by rw [failN_len]; exact hn.out) kF6
        rw [hU] at x1
        replace hU := hid hU
        replace hgo := hid hgo
        clear kF
        go_wp2_with fail
        refine kF6.mono ?_
        rintro e w7 ⟨a7, c7, rfl, hc7, ho7, hb7⟩
        replace x1 := stay hb7 x1
        have B7 := bnext B6 hb7
        have hln : (failN L p).length = n := by rw [failN_len]; exact hn.out
        have kU2 := fun w' (h : Below w7.heap.size w7 w') => up_any a7 n c7 (failN L p) w' hln hl hc7 (ho7.dat.below h)
        have kU1 := fun w' (h : Below w7.heap.size w7 w') => up_any (some ⟨b, o, none⟩) n c L w' hn.out hl hnc (hat.out.below (bnext B7 h))
        have kA := fun w' (h : Below w7.heap.size w7 w') => able_any a7 n c7 (failN L p) s k w' hln hl hc7 hs (ho7.dat.below h)
        have kC2 := fun w' (h : Below w7.heap.size w7 w') => cores_any a7 n c7 (failN L p) w' hln (by omega) (ho7.dat.below h)
        have kC1 := fun w' (h : Below w7.heap.size w7 w') => cores_any (some ⟨b, o, none⟩) n c L w' hn.out (by omega) (hat.out.below (bnext B7 h))
        have hcr : coresP (failN L p) = coresP L := cores_fail L p
        rw [hcr] at kC2
        have hCs : (coresP L).length = n := by unfold coresP; rw [List.length_map]; exact hn.out
        have hand2 := u32_andNot_nat (upP L) (2 ^ p) (upP_lt L) (pow_lt32 (by omega))
        rw [← up_fail hpL (by rw [hn.out]; exact hn2)] at hand2
        rw [able_fail, hA1.out] at kA
        have hT : IntKind.u32.wrap (2 ^ p) = ((2 ^ p : Nat) : Int) := by
          rw [IntKind.wrap_u32, pow_mod (by omega)]; push_cast; rfl
        generalize coresP L = Cs at *
        generalize upP L = U1 at *
        generalize upP (failN L p) = U2 at *
        generalize 2 ^ p = T at *
        replace hCs := hid hCs
        replace hcr := hid hcr
        replace hln := hid hln
        clear kF6 x0 x2 hb7 ho7
        replace kU1 := hid kU1
        replace kU2 := hid kU2
        replace kA := hid kA
        replace kC1 := hid kC1
        replace kC2 := hid kC2
        replace hand2 := hid hand2
        replace hT := hid hT
        go_wp2_with fail
        replace kU1 := kU1.out
        replace kU2 := kU2.out
        replace kA := kA.out
        replace kC1 := kC1.out
        replace kC2 := kC2.out
        replace hand2 := hand2.out
        replace hT := hT.out
        refine wp_region_drawn (Rel := fun w w' => Below w.heap.size w w') (Pr := PrV (sv11 b o n c s k p A1 U1 U2 T a7 c7) [25, 27] (fun _ v w' => ∃ g, v = .slice (some ⟨g, 0, none⟩) n n ∧ CAt w' (some ⟨g, 0, none⟩) (Cs.map I))) (by kernel_rfl) (by kernel_rfl) (drew_below _) bel_tr (PrV.mono (fun _ _ _ _ h hb => by obtain ⟨g, e, hc⟩ := h; exact ⟨g, e, CAt.below hc hb⟩)) ?_ ?_
        · refine ⟨?_, ?_, ?_, ?_, ?_, ?_, ?_, ?_, ?_, ?_, ?_, ?_, ?_, ?_, ?_, ?_, ?_, ?_, ?_, ?_, ?_, ?_, ?_, ?_, ?_, ?_, ?_, ?_, ?_, ?_, ?_, ?_, ?_, ?_, trivial⟩
          · exact fun ac w hR hd hk K hK => yes (want_n rfl) (wp_mv _ rfl _ (get_keep (hk 0 (no_dst (by kernel_rfl))) rfl) (hK _ w (PrV.is rfl rfl) (Below.refl _ _)))
          · exact fun ac w hR hd hk K hK => yes (want_n rfl) (wp_mv _ rfl _ (get_keep (hk 1 (no_dst (by kernel_rfl))) rfl) (hK _ w (PrV.is rfl rfl) (Below.refl _ _)))
          · intro ac w hR hd hk K hK
            have e77 : ac.tmps[77]?.getD undef = (.slice (some ⟨b, o, none⟩) n c : Value) := slot ((hd 0 _ 77 rfl rfl rfl).val rfl)
            have e78 : ac.tmps[78]?.getD undef = (.int .i64 (p : Int) : Value) := slot ((hd 1 _ 78 rfl rfl rfl).val rfl)
            refine yes (want_n rfl) ?_
            have hv := hid (hK (.pointer (some ⟨b, o + p * 3, none⟩)) w (PrV.is rfl rfl) (Below.refl _ _))
            go_simp
            refine kq hv.out ?_
            rfl
          · intro ac w hR hd hk K hK
            have e79 : ac.tmps[79]?.getD undef = (.pointer (some ⟨b, o + p * 3, none⟩) : Value) := slot ((hd 2 _ 79 rfl rfl rfl).val rfl)
            refine yes (want_n rfl) ?_
            have hv := hid (hK (.pointer (some ⟨b, o + p * 3 + 1, none⟩)) w (PrV.is rfl rfl) (Below.refl _ _))
            go_simp
            refine kq hv.out ?_
            rfl
          · intro ac w hR hd hk K hK
            have e80 : ac.tmps[80]?.getD undef = (.pointer (some ⟨b, o + p * 3 + 1, none⟩) : Value) := slot ((hd 3 _ 80 rfl rfl rfl).val rfl)
            have x1w := stay hR x1
            refine yes (want_n rfl) ?_
            have hv := hid (hK (.bool true) w (PrV.is rfl rfl) (Below.refl _ _))
            go_simp
            refine kq hv.out ?_
            rfl
          · exact fun ac w hR hd hk K hK => yes (want_n rfl) (wp_mv _ rfl _ ((hd 4 _ 81 rfl rfl rfl).val rfl) (hK _ w (PrV.is rfl rfl) (Below.refl _ _)))
          · exact fun ac w hR hd hk K hK => yes (want_g rfl rfl ((hd 5 _ 82 rfl rfl rfl).val rfl)) (wp_mv _ rfl _ (get_keep (hk 11 (no_dst (by kernel_rfl))) rfl) (hK _ w (PrV.is rfl rfl) (Below.refl _ _)))
          · exact fun ac w hR hd hk K hK => yes (want_g rfl rfl ((hd 5 _ 82 rfl rfl rfl).val rfl)) (wp_callv 16 _ _ rfl _ Try.func16 rfl rfl _ (args1 ((hd 6 _ 83 rfl rfl rfl).val rfl)) (kU2 w hR) (by rintro e w' ⟨rfl, hb⟩; exact ⟨_, rfl, hK _ w' (PrV.is rfl rfl) (hb)⟩))
          · exact fun ac w hR hd hk K hK => yes (want_g rfl rfl ((hd 5 _ 82 rfl rfl rfl).val rfl)) (wp_mv _ rfl _ (get_keep (hk 0 (no_dst (by kernel_rfl))) rfl) (hK _ w (PrV.is rfl rfl) (Below.refl _ _)))
          · exact fun ac w hR hd hk K hK => yes (want_g rfl rfl ((hd 5 _ 82 rfl rfl rfl).val rfl)) (wp_callv 16 _ _ rfl _ Try.func16 rfl rfl _ (args1 ((hd 8 _ 85 rfl rfl rfl).val rfl)) (kU1 w hR) (by rintro e w' ⟨rfl, hb⟩; exact ⟨_, rfl, hK _ w' (PrV.is rfl rfl) (hb)⟩))
          · exact fun ac w hR hd hk K hK => yes (want_g rfl rfl ((hd 5 _ 82 rfl rfl rfl).val rfl)) (wp_mv _ rfl _ (get_keep (hk 1 (no_dst (by kernel_rfl))) rfl) (hK _ w (PrV.is rfl rfl) (Below.refl _ _)))
          · intro ac w hR hd hk K hK
            have e87 : ac.tmps[87]?.getD undef = (.int .i64 (p : Int) : Value) := slot ((hd 10 _ 87 rfl rfl rfl).val rfl)
            refine yes (want_g rfl rfl ((hd 5 _ 82 rfl rfl rfl).val rfl)) ?_
            have hv := hid (hK (.int .u32 ((T : Nat) : Int)) w (PrV.is rfl rfl) (Below.refl _ _))
            go_simp
            refine kq hv.out ?_
            rfl
          · intro ac w hR hd hk K hK
            have e86 : ac.tmps[86]?.getD undef = (.int .u32 (U1 : Int) : Value) := slot ((hd 9 _ 86 rfl rfl rfl).val rfl)
            have e88 : ac.tmps[88]?.getD undef = (.int .u32 ((T : Nat) : Int) : Value) := slot ((hd 11 _ 88 rfl rfl rfl).val rfl)
            refine yes (want_g rfl rfl ((hd 5 _ 82 rfl rfl rfl).val rfl)) ?_
            have hv := hid (hK (.int .u32 (U2 : Int)) w (PrV.is rfl rfl) (Below.refl _ _))
            go_simp
            refine kq hv.out ?_
            rw [← hand2]
          · intro ac w hR hd hk K hK
            have e84 : ac.tmps[84]?.getD undef = (.int .u32 (U2 : Int) : Value) := slot ((hd 7 _ 84 rfl rfl rfl).val rfl)
            have e89 : ac.tmps[89]?.getD undef = (.int .u32 (U2 : Int) : Value) := slot ((hd 12 _ 89 rfl rfl rfl).val rfl)
            refine yes (want_g rfl rfl ((hd 5 _ 82 rfl rfl rfl).val rfl)) ?_
            have hv := hid (hK (.bool true) w (PrV.is rfl rfl) (Below.refl _ _))
            go_simp
            refine kq hv.out ?_
            simp
          · exact fun ac w hR hd hk K hK => yes (want_n rfl) (wp_pick _ _ _ rfl true _ ((hd 5 _ 82 rfl rfl rfl).val rfl) ((hd 13 _ 90 rfl rfl rfl).val rfl) (hK _ w (PrV.is rfl rfl) (Below.refl _ _)))
          · exact fun ac w hR hd hk K hK => yes (want_n rfl) (wp_mv _ rfl _ ((hd 14 _ 91 rfl rfl rfl).val rfl) (hK _ w (PrV.is rfl rfl) (Below.refl _ _)))
          · exact fun ac w hR hd hk K hK => yes (want_g rfl rfl ((hd 15 _ 92 rfl rfl rfl).val rfl)) (wp_mv _ rfl _ (get_keep (hk 11 (no_dst (by kernel_rfl))) rfl) (hK _ w (PrV.is rfl rfl) (Below.refl _ _)))
          · exact fun ac w hR hd hk K hK => yes (want_g rfl rfl ((hd 15 _ 92 rfl rfl rfl).val rfl)) (wp_mv _ rfl _ (get_keep (hk 7 (no_dst (by kernel_rfl))) rfl) (hK _ w (PrV.is rfl rfl) (Below.refl _ _)))
          · exact fun ac w hR hd hk K hK => yes (want_g rfl rfl ((hd 15 _ 92 rfl rfl rfl).val rfl)) (wp_mv _ rfl _ (get_keep (hk 8 (no_dst (by kernel_rfl))) rfl) (hK _ w (PrV.is rfl rfl) (Below.refl _ _)))
          · exact fun ac w hR hd hk K hK => yes (want_g rfl rfl ((hd 15 _ 92 rfl rfl rfl).val rfl)) (wp_callv 21 _ _ rfl _ Try.func21 rfl rfl _ (args3 ((hd 16 _ 93 rfl rfl rfl).val rfl) ((hd 17 _ 94 rfl rfl rfl).val rfl) ((hd 18 _ 95 rfl rfl rfl).val rfl)) (kA w hR) (by rintro e w' ⟨rfl, hb⟩; exact ⟨_, rfl, hK _ w' (PrV.is rfl rfl) (hb)⟩))
          · exact fun ac w hR hd hk K hK => yes (want_g rfl rfl ((hd 15 _ 92 rfl rfl rfl).val rfl)) (wp_mv _ rfl _ (get_keep (hk 9 (no_dst (by kernel_rfl))) rfl) (hK _ w (PrV.is rfl rfl) (Below.refl _ _)))
          · intro ac w hR hd hk K hK
            have e96 : ac.tmps[96]?.getD undef = (.int .u32 (A1 : Int) : Value) := slot ((hd 19 _ 96 rfl rfl rfl).val rfl)
            have e97 : ac.tmps[97]?.getD undef = (.int .u32 (A1 : Int) : Value) := slot ((hd 20 _ 97 rfl rfl rfl).val rfl)
            refine yes (want_g rfl rfl ((hd 15 _ 92 rfl rfl rfl).val rfl)) ?_
            have hv := hid (hK (.bool true) w (PrV.is rfl rfl) (Below.refl _ _))
            go_simp
            refine kq hv.out ?_
            simp
          · exact fun ac w hR hd hk K hK => yes (want_n rfl) (wp_pick _ _ _ rfl true _ ((hd 15 _ 92 rfl rfl rfl).val rfl) ((hd 21 _ 98 rfl rfl rfl).val rfl) (hK _ w (PrV.is rfl rfl) (Below.refl _ _)))
          · exact fun ac w hR hd hk K hK => yes (want_n rfl) (wp_mv _ rfl _ ((hd 22 _ 99 rfl rfl rfl).val rfl) (hK _ w (PrV.is rfl rfl) (Below.refl _ _)))
          · exact fun ac w hR hd hk K hK => yes (want_g rfl rfl ((hd 23 _ 100 rfl rfl rfl).val rfl)) (wp_mv _ rfl _ (get_keep (hk 11 (no_dst (by kernel_rfl))) rfl) (hK _ w (PrV.is rfl rfl) (Below.refl _ _)))
          · intro ac w hR hd hk K hK
            refine yes (want_g rfl rfl ((hd 23 _ 100 rfl rfl rfl).val rfl)) ?_
            refine wp_callv 19 _ _ rfl _ Try.func19 rfl rfl _ (args1 ((hd 24 _ 101 rfl rfl rfl).val rfl)) (kC2 w hR) ?_
            rintro e w' ⟨g, rfl, hc, hb⟩
            exact ⟨_, rfl, hK _ w' (PrV.by rfl ⟨g, rfl, hc⟩) hb⟩
          · exact fun ac w hR hd hk K hK => yes (want_g rfl rfl ((hd 23 _ 100 rfl rfl rfl).val rfl)) (wp_mv _ rfl _ (get_keep (hk 0 (no_dst (by kernel_rfl))) rfl) (hK _ w (PrV.is rfl rfl) (Below.refl _ _)))
          · intro ac w hR hd hk K hK
            refine yes (want_g rfl rfl ((hd 23 _ 100 rfl rfl rfl).val rfl)) ?_
            refine wp_callv 19 _ _ rfl _ Try.func19 rfl rfl _ (args1 ((hd 26 _ 103 rfl rfl rfl).val rfl)) (kC1 w hR) ?_
            rintro e w' ⟨g, rfl, hc, hb⟩
            exact ⟨_, rfl, hK _ w' (PrV.by rfl ⟨g, rfl, hc⟩) hb⟩
          · intro ac w hR hd hk K hK
            obtain ⟨g1, e1, c1⟩ := (hd 25 _ 102 rfl rfl rfl).out rfl
            obtain ⟨g2, e2, c2⟩ := (hd 27 _ 104 rfl rfl rfl).out rfl
            refine yes (want_g rfl rfl ((hd 23 _ 100 rfl rfl rfl).val rfl)) ?_
            refine wp_callv 18 _ _ rfl _ Try.func18 rfl rfl _ (args2 e1 e2) (samei_any _ _ n n n Cs w hCs.out (by omega) c1 c2) ?_
            rintro e w' ⟨rfl, hb⟩
            exact ⟨_, rfl, hK _ w' (PrV.is rfl rfl) hb⟩
          · exact fun ac w hR hd hk K hK => yes (want_n rfl) (wp_pick _ _ _ rfl true _ ((hd 23 _ 100 rfl rfl rfl).val rfl) ((hd 28 _ 105 rfl rfl rfl).val rfl) (hK _ w (PrV.is rfl rfl) (Below.refl _ _)))
          · exact fun ac w hR hd hk K hK => yes (want_n rfl) (wp_mv _ rfl _ ((hd 29 _ 106 rfl rfl rfl).val rfl) (hK _ w (PrV.is rfl rfl) (Below.refl _ _)))
          · exact fun ac w hR hd hk K hK => yes (want_g rfl rfl ((hd 30 _ 107 rfl rfl rfl).val rfl)) (wp_callv 23 _ _ rfl _ Try.func23 rfl rfl _ (args0) (awake_any w) (by rintro e w' ⟨rfl, hb⟩; exact ⟨_, rfl, hK _ w' (PrV.is rfl rfl) (hb)⟩))
          · exact fun ac w hR hd hk K hK => yes (want_n rfl) (wp_pick _ _ _ rfl true _ ((hd 30 _ 107 rfl rfl rfl).val rfl) ((hd 31 _ 108 rfl rfl rfl).val rfl) (hK _ w (PrV.is rfl rfl) (Below.refl _ _)))
          · exact fun ac w hR hd hk K hK => yes (want_n rfl) (wp_as _ rfl _ ((hd 32 _ 109 rfl rfl rfl).val rfl) (hK _ w (PrV.is rfl rfl) (Below.refl _ _)))
        · intro a w8 hdf hsz hkp hval hRw
          obtain ⟨f, hf⟩ : ∃ f, f = fun d => a.tmps.getD d undef := ⟨_, rfl⟩
          have h6 : f 6 = .bool true := by rw [hf]; exact (hval 33 _ 6 rfl rfl).val rfl
          have hfa := act_filled hdf hsz hkp
          rw [← hf] at hfa
          rw [hfa]
          clear hdf hsz hkp hval hfa hf
          clear a
          simp only [fillAll, List.set_cons_zero, List.set_cons_succ, h6]
          clear h6
          have B8 := bnext B7 hRw
          clear hRw
          go_wp2
          go_ret
          exact ⟨rfl, B8⟩
  · have kW1 := kW1.out
    have hM := hM.out
    have hand := hand.out
    have kA3 := kA3.out
    refine wp_region_drawn (Rel := fun w w' => Below w.heap.size w w') (Pr := PrV (sv6n a n c s k A1 A3 M) [] (fun _ _ _ => True)) (by kernel_rfl) (by kernel_rfl) (drew_below _) bel_tr (PrV.mono (fun _ _ _ _ _ _ => trivial)) ?_ ?_
    · refine ⟨?_, ?_, ?_, ?_, ?_, ?_, ?_, ?_, ?_, ?_, ?_, ?_, ?_, ?_, ?_, ?_, ?_, ?_, ?_, ?_, ?_, ?_, ?_, ?_, ?_, ?_, trivial⟩
      · exact fun ac w hR hd hk K hK => yes (want_n rfl) (wp_mv _ rfl _ (get_keep (hk 9 (no_dst (by kernel_rfl))) rfl) (hK _ w (PrV.is rfl rfl) (Below.refl _ _)))
      · exact fun ac w hR hd hk K hK => yes (want_n rfl) (wp_mv _ rfl _ (get_keep (hk 7 (no_dst (by kernel_rfl))) rfl) (hK _ w (PrV.is rfl rfl) (Below.refl _ _)))
      · exact fun ac w hR hd hk K hK => yes (want_n rfl) (wp_callv 25 _ _ rfl _ Try.func25 rfl rfl _ (args2 ((hd 0 _ 34 rfl rfl rfl).val rfl) ((hd 1 _ 35 rfl rfl rfl).val rfl)) (kW1 w) (by rintro e w' ⟨rfl, hb⟩; exact ⟨_, rfl, hK _ w' (PrV.is rfl rfl) (by subst hb; exact Below.refl _ _)⟩))
      · intro ac w hR hd hk K hK
        have e36 : ac.tmps[36]?.getD undef = (.bool true : Value) := slot ((hd 2 _ 36 rfl rfl rfl).val rfl)
        refine yes (want_n rfl) ?_
        have hv := hid (hK (.bool false) w (PrV.is rfl rfl) (Below.refl _ _))
        go_simp
        refine kq hv.out ?_
        rfl
      · exact fun ac w hR hd hk K hK => yes (want_n rfl) (wp_mv _ rfl _ ((hd 3 _ 37 rfl rfl rfl).val rfl) (hK _ w (PrV.is rfl rfl) (Below.refl _ _)))
      · exact fun ac w hR hd hk K hK => yes (want_g rfl rfl ((hd 4 _ 38 rfl rfl rfl).val rfl)) (wp_mv _ rfl _ (get_keep (hk 8 (no_dst (by kernel_rfl))) rfl) (hK _ w (PrV.is rfl rfl) (Below.refl _ _)))
      · intro ac w hR hd hk K hK
        have e39 : ac.tmps[39]?.getD undef = (.int .i64 k : Value) := slot ((hd 5 _ 39 rfl rfl rfl).val rfl)
        have dk1 := dk
        refine yes (want_g rfl rfl ((hd 4 _ 38 rfl rfl rfl).val rfl)) ?_
        have hv := hid (hK (.bool false) w (PrV.is rfl rfl) (Below.refl _ _))
        go_simp
        refine kq hv.out ?_
        rfl
      · exact fun ac w hR hd hk K hK => yes (want_g rfl rfl ((hd 4 _ 38 rfl rfl rfl).val rfl)) (wp_mv _ rfl _ ((hd 6 _ 40 rfl rfl rfl).val rfl) (hK _ w (PrV.is rfl rfl) (Below.refl _ _)))
      · exact fun ac w hR hd hk K hK => nope (want_f rfl rfl ((hd 7 _ 41 rfl rfl rfl).val rfl) (by decide)) (hK _ w (PrV.is rfl rfl) (Below.refl _ _))
      · exact fun ac w hR hd hk K hK => nope (want_f rfl rfl ((hd 7 _ 41 rfl rfl rfl).val rfl) (by decide)) (hK _ w (PrV.is rfl rfl) (Below.refl _ _))
      · exact fun ac w hR hd hk K hK => nope (want_f rfl rfl ((hd 7 _ 41 rfl rfl rfl).val rfl) (by decide)) (hK _ w (PrV.is rfl rfl) (Below.refl _ _))
      · exact fun ac w hR hd hk K hK => nope (want_f rfl rfl ((hd 7 _ 41 rfl rfl rfl).val rfl) (by decide)) (hK _ w (PrV.is rfl rfl) (Below.refl _ _))
      · exact fun ac w hR hd hk K hK => yes (want_g rfl rfl ((hd 4 _ 38 rfl rfl rfl).val rfl)) (wp_pick _ _ _ rfl false _ ((hd 7 _ 41 rfl rfl rfl).val rfl) rfl (hK _ w (PrV.is rfl rfl) (Below.refl _ _)))
      · exact fun ac w hR hd hk K hK => yes (want_n rfl) (wp_pick _ _ _ rfl false _ ((hd 4 _ 38 rfl rfl rfl).val rfl) ((hd 12 _ 46 rfl rfl rfl).val rfl) (hK _ w (PrV.is rfl rfl) (Below.refl _ _)))
      · exact fun ac w hR hd hk K hK => yes (want_n rfl) (wp_mv _ rfl _ ((hd 13 _ 47 rfl rfl rfl).val rfl) (hK _ w (PrV.is rfl rfl) (Below.refl _ _)))
      · exact fun ac w hR hd hk K hK => yes (want_g rfl rfl ((hd 14 _ 48 rfl rfl rfl).val rfl)) (wp_mv _ rfl _ (get_keep (hk 0 (no_dst (by kernel_rfl))) rfl) (hK _ w (PrV.is rfl rfl) (Below.refl _ _)))
      · exact fun ac w hR hd hk K hK => yes (want_g rfl rfl ((hd 14 _ 48 rfl rfl rfl).val rfl)) (wp_mv _ rfl _ (get_keep (hk 7 (no_dst (by kernel_rfl))) rfl) (hK _ w (PrV.is rfl rfl) (Below.refl _ _)))
      · exact fun ac w hR hd hk K hK => yes (want_g rfl rfl ((hd 14 _ 48 rfl rfl rfl).val rfl)) (wp_callv 21 _ _ rfl _ Try.func21 rfl rfl _ (args3 ((hd 15 _ 49 rfl rfl rfl).val rfl) ((hd 16 _ 50 rfl rfl rfl).val rfl) rfl) (kA3 w hR) (by rintro e w' ⟨rfl, hb⟩; exact ⟨_, rfl, hK _ w' (PrV.is rfl rfl) (hb)⟩))
      · exact fun ac w hR hd hk K hK => yes (want_g rfl rfl ((hd 14 _ 48 rfl rfl rfl).val rfl)) (wp_mv _ rfl _ (get_keep (hk 7 (no_dst (by kernel_rfl))) rfl) (hK _ w (PrV.is rfl rfl) (Below.refl _ _)))
      · exact fun ac w hR hd hk K hK => yes (want_g rfl rfl ((hd 14 _ 48 rfl rfl rfl).val rfl)) (wp_mv _ rfl _ (get_keep (hk 0 (no_dst (by kernel_rfl))) rfl) (hK _ w (PrV.is rfl rfl) (Below.refl _ _)))
      · intro ac w hR hd hk K hK
        have e53 : ac.tmps[53]?.getD undef = (.slice a n c : Value) := slot ((hd 19 _ 53 rfl rfl rfl).val rfl)
        refine yes (want_g rfl rfl ((hd 14 _ 48 rfl rfl rfl).val rfl)) ?_
        have hv := hid (hK (.int .i64 (n : Int)) w (PrV.is rfl rfl) (Below.refl _ _))
        go_simp
        refine kq hv.out ?_
        rfl
      · intro ac w hR hd hk K hK
        have e54 : ac.tmps[54]?.getD undef = (.int .i64 (n : Int) : Value) := slot ((hd 20 _ 54 rfl rfl rfl).val rfl)
        refine yes (want_g rfl rfl ((hd 14 _ 48 rfl rfl rfl).val rfl)) ?_
        have hv := hid (hK (.int .u32 (2 ^ n % 4294967296)) w (PrV.is rfl rfl) (Below.refl _ _))
        go_simp
        refine kq hv.out ?_
        exact congrArg (Value.int .u32) (IntKind.wrap_u32 _).symm
      · intro ac w hR hd hk K hK
        have e55 : ac.tmps[55]?.getD undef = (.int .u32 (2 ^ n % 4294967296) : Value) := slot ((hd 21 _ 55 rfl rfl rfl).val rfl)
        have hM1 := hM
        refine yes (want_g rfl rfl ((hd 14 _ 48 rfl rfl rfl).val rfl)) ?_
        have hv := hid (hK (.int .u32 (M : Int)) w (PrV.is rfl rfl) (Below.refl _ _))
        go_simp
        refine kq hv.out ?_
        exact congrArg (Value.int .u32) (sub_val hM).symm
      · intro ac w hR hd hk K hK
        have e52 : ac.tmps[52]?.getD undef = (.int .u32 (s : Int) : Value) := slot ((hd 18 _ 52 rfl rfl rfl).val rfl)
        have e56 : ac.tmps[56]?.getD undef = (.int .u32 (M : Int) : Value) := slot ((hd 22 _ 56 rfl rfl rfl).val rfl)
        have hA1 := hand
        refine yes (want_g rfl rfl ((hd 14 _ 48 rfl rfl rfl).val rfl)) ?_
        have hv := hid (hK (.int .u32 (A3 : Int)) w (PrV.is rfl rfl) (Below.refl _ _))
        go_simp
        refine kq hv.out ?_
        rw [← hand]
      · intro ac w hR hd hk K hK
        have e51 : ac.tmps[51]?.getD undef = (.int .u32 (A3 : Int) : Value) := slot ((hd 17 _ 51 rfl rfl rfl).val rfl)
        have e57 : ac.tmps[57]?.getD undef = (.int .u32 (A3 : Int) : Value) := slot ((hd 23 _ 57 rfl rfl rfl).val rfl)
        refine yes (want_g rfl rfl ((hd 14 _ 48 rfl rfl rfl).val rfl)) ?_
        have hv := hid (hK (.bool false) w (PrV.is rfl rfl) (Below.refl _ _))
        go_simp
        refine kq hv.out ?_
        simp
      · exact fun ac w hR hd hk K hK => yes (want_n rfl) (wp_pick _ _ _ rfl false _ ((hd 14 _ 48 rfl rfl rfl).val rfl) ((hd 24 _ 58 rfl rfl rfl).val rfl) (hK _ w (PrV.is rfl rfl) (Below.refl _ _)))
    · intro a w6 hdf hsz hkp hval hRw
      obtain ⟨f, hf⟩ : ∃ f, f = fun d => a.tmps.getD d undef := ⟨_, rfl⟩
      have h59 : f 59 = .bool false := by rw [hf]; exact (hval 25 _ 59 rfl rfl).val rfl
      have hfa := act_filled hdf hsz hkp
      rw [← hf] at hfa
      rw [hfa]
      clear hdf hsz hkp hval hfa hf
      clear a
      simp only [fillAll, List.set_cons_zero, List.set_cons_succ, h59]
      clear h59
      have B6 := bnext B5 hRw
      clear kW1 hM hand kA3 dk hRw B5
      obtain ⟨b, o, e⟩ := hat.out.place (by rw [hn.out]; omega)
      subst e
      have hpL : p < L.length := by rw [hn.out]; exact hp
      obtain ⟨x0, x1, x2⟩ := (hat.out.below B6).one hpL
      have hgo : (rightB L && placeB L.length (p : Int)) = true := by rw [hB.out, hn.out, show placeB n (p : Int) = true from decide_eq_true ⟨by omega, by omega⟩]; rfl
      cases hU : (nodAt L p).2.1
      · have kF6 := fail_any (some ⟨b, o, none⟩) n c L (p : Int) w6 hn.out hl (hat.out.below B6)
        rw [show failP L (p : Int) = ([], 180) by unfold failP; rw [hgo, Int.toNat_natCast, hU]; rfl] at kF6
        replace kF6 := told_n 0 rfl kF6
        rw [hU] at x1
        replace hU := hid hU
        replace hgo := hid hgo
        clear kF
        go_wp2_with fail
        refine kF6.mono ?_
        rintro e w7 ⟨a7, c7, rfl, hc7, ho7, hb7⟩
        have x1w := stay hb7 x1
        have B7 := bnext B6 hb7
        clear ho7 kF6 x0 x1 x2 hb7
        go_wp2_with fail
        refine (awake_any _).mono ?_
        rintro e w8 ⟨rfl, hb8⟩
        have B8 := bnext B7 hb8
        go_wp2
        go_ret
        exact ⟨rfl, B8⟩
      · have kF6 := fail_any (some ⟨b, o, none⟩) n c L (p : Int) w6 hn.out hl (hat.out.below B6)
        rw [show failP L (p : Int) = (failN L p, 0) by unfold failP; rw [hgo, Int.toNat_natCast, hU]; rfl] at kF6
        replace kF6 := told_n n (by rw [failN_len]; exact hn.out) kF6
        rw [hU] at x1
        replace hU := hid hU
        replace hgo := hid hgo
        clear kF
        go_wp2_with fail
        refine kF6.mono ?_
        rintro e w7 ⟨a7, c7, rfl, hc7, ho7, hb7⟩
        replace x1 := stay hb7 x1
        have B7 := bnext B6 hb7
        have hln : (failN L p).length = n := by rw [failN_len]; exact hn.out
        have kU2 := fun w' (h : Below w7.heap.size w7 w') => up_any a7 n c7 (failN L p) w' hln hl hc7 (ho7.dat.below h)
        have kU1 := fun w' (h : Below w7.heap.size w7 w') => up_any (some ⟨b, o, none⟩) n c L w' hn.out hl hnc (hat.out.below (bnext B7 h))
        have kA := fun w' (h : Below w7.heap.size w7 w') => able_any a7 n c7 (failN L p) s k w' hln hl hc7 hs (ho7.dat.below h)
        have kC2 := fun w' (h : Below w7.heap.size w7 w') => cores_any a7 n c7 (failN L p) w' hln (by omega) (ho7.dat.below h)
        have kC1 := fun w' (h : Below w7.heap.size w7 w') => cores_any (some ⟨b, o, none⟩) n c L w' hn.out (by omega) (hat.out.below (bnext B7 h))
        have hcr : coresP (failN L p) = coresP L := cores_fail L p
        rw [hcr] at kC2
        have hCs : (coresP L).length = n := by unfold coresP; rw [List.length_map]; exact hn.out
        have hand2 := u32_andNot_nat (upP L) (2 ^ p) (upP_lt L) (pow_lt32 (by omega))
        rw [← up_fail hpL (by rw [hn.out]; exact hn2)] at hand2
        rw [able_fail, hA1.out] at kA
        have hT : IntKind.u32.wrap (2 ^ p) = ((2 ^ p : Nat) : Int) := by
          rw [IntKind.wrap_u32, pow_mod (by omega)]; push_cast; rfl
        generalize coresP L = Cs at *
        generalize upP L = U1 at *
        generalize upP (failN L p) = U2 at *
        generalize 2 ^ p = T at *
        replace hCs := hid hCs
        replace hcr := hid hcr
        replace hln := hid hln
        clear kF6 x0 x2 hb7 ho7
        replace kU1 := hid kU1
        replace kU2 := hid kU2
        replace kA := hid kA
        replace kC1 := hid kC1
        replace kC2 := hid kC2
        replace hand2 := hid hand2
        replace hT := hid hT
        go_wp2_with fail
        replace kU1 := kU1.out
        replace kU2 := kU2.out
        replace kA := kA.out
        replace kC1 := kC1.out
        replace kC2 := kC2.out
        replace hand2 := hand2.out
        replace hT := hT.out
        refine wp_region_drawn (Rel := fun w w' => Below w.heap.size w w') (Pr := PrV (sv11 b o n c s k p A1 U1 U2 T a7 c7) [25, 27] (fun _ v w' => ∃ g, v = .slice (some ⟨g, 0, none⟩) n n ∧ CAt w' (some ⟨g, 0, none⟩) (Cs.map I))) (by kernel_rfl) (by kernel_rfl) (drew_below _) bel_tr (PrV.mono (fun _ _ _ _ h hb => by obtain ⟨g, e, hc⟩ := h; exact ⟨g, e, CAt.below hc hb⟩)) ?_ ?_
        · refine ⟨?_, ?_, ?_, ?_, ?_, ?_, ?_, ?_, ?_, ?_, ?_, ?_, ?_, ?_, ?_, ?_, ?_, ?_, ?_, ?_, ?_, ?_, ?_, ?_, ?_, ?_, ?_, ?_, ?_, ?_, ?_, ?_, ?_, ?_, trivial⟩
          · exact fun ac w hR hd hk K hK => yes (want_n rfl) (wp_mv _ rfl _ (get_keep (hk 0 (no_dst (by kernel_rfl))) rfl) (hK _ w (PrV.is rfl rfl) (Below.refl _ _)))
          · exact fun ac w hR hd hk K hK => yes (want_n rfl) (wp_mv _ rfl _ (get_keep (hk 1 (no_dst (by kernel_rfl))) rfl) (hK _ w (PrV.is rfl rfl) (Below.refl _ _)))
          · intro ac w hR hd hk K hK
            have e77 : ac.tmps[77]?.getD undef = (.slice (some ⟨b, o, none⟩) n c : Value) := slot ((hd 0 _ 77 rfl rfl rfl).val rfl)
            have e78 : ac.tmps[78]?.getD undef = (.int .i64 (p : Int) : Value) := slot ((hd 1 _ 78 rfl rfl rfl).val rfl)
            refine yes (want_n rfl) ?_
            have hv := hid (hK (.pointer (some ⟨b, o + p * 3, none⟩)) w (PrV.is rfl rfl) (Below.refl _ _))
            go_simp
            refine kq hv.out ?_
            rfl
          · intro ac w hR hd hk K hK
            have e79 : ac.tmps[79]?.getD undef = (.pointer (some ⟨b, o + p * 3, none⟩) : Value) := slot ((hd 2 _ 79 rfl rfl rfl).val rfl)
            refine yes (want_n rfl) ?_
            have hv := hid (hK (.pointer (some ⟨b, o + p * 3 + 1, none⟩)) w (PrV.is rfl rfl) (Below.refl _ _))
            go_simp
            refine kq hv.out ?_
            rfl
          · intro ac w hR hd hk K hK
            have e80 : ac.tmps[80]?.getD undef = (.pointer (some ⟨b, o + p * 3 + 1, none⟩) : Value) := slot ((hd 3 _ 80 rfl rfl rfl).val rfl)
            have x1w := stay hR x1
            refine yes (want_n rfl) ?_
            have hv := hid (hK (.bool true) w (PrV.is rfl rfl) (Below.refl _ _))
            go_simp
            refine kq hv.out ?_
            rfl
          · exact fun ac w hR hd hk K hK => yes (want_n rfl) (wp_mv _ rfl _ ((hd 4 _ 81 rfl rfl rfl).val rfl) (hK _ w (PrV.is rfl rfl) (Below.refl _ _)))
          · exact fun ac w hR hd hk K hK => yes (want_g rfl rfl ((hd 5 _ 82 rfl rfl rfl).val rfl)) (wp_mv _ rfl _ (get_keep (hk 11 (no_dst (by kernel_rfl))) rfl) (hK _ w (PrV.is rfl rfl) (Below.refl _ _)))
          · exact fun ac w hR hd hk K hK => yes (want_g rfl rfl ((hd 5 _ 82 rfl rfl rfl).val rfl)) (wp_callv 16 _ _ rfl _ Try.func16 rfl rfl _ (args1 ((hd 6 _ 83 rfl rfl rfl).val rfl)) (kU2 w hR) (by rintro e w' ⟨rfl, hb⟩; exact ⟨_, rfl, hK _ w' (PrV.is rfl rfl) (hb)⟩))
          · exact fun ac w hR hd hk K hK => yes (want_g rfl rfl ((hd 5 _ 82 rfl rfl rfl).val rfl)) (wp_mv _ rfl _ (get_keep (hk 0 (no_dst (by kernel_rfl))) rfl) (hK _ w (PrV.is rfl rfl) (Below.refl _ _)))
          · exact fun ac w hR hd hk K hK => yes (want_g rfl rfl ((hd 5 _ 82 rfl rfl rfl).val rfl)) (wp_callv 16 _ _ rfl _ Try.func16 rfl rfl _ (args1 ((hd 8 _ 85 rfl rfl rfl).val rfl)) (kU1 w hR) (by rintro e w' ⟨rfl, hb⟩; exact ⟨_, rfl, hK _ w' (PrV.is rfl rfl) (hb)⟩))
          · exact fun ac w hR hd hk K hK => yes (want_g rfl rfl ((hd 5 _ 82 rfl rfl rfl).val rfl)) (wp_mv _ rfl _ (get_keep (hk 1 (no_dst (by kernel_rfl))) rfl) (hK _ w (PrV.is rfl rfl) (Below.refl _ _)))
          · intro ac w hR hd hk K hK
            have e87 : ac.tmps[87]?.getD undef = (.int .i64 (p : Int) : Value) := slot ((hd 10 _ 87 rfl rfl rfl).val rfl)
            refine yes (want_g rfl rfl ((hd 5 _ 82 rfl rfl rfl).val rfl)) ?_
            have hv := hid (hK (.int .u32 ((T : Nat) : Int)) w (PrV.is rfl rfl) (Below.refl _ _))
            go_simp
            refine kq hv.out ?_
            rfl
          · intro ac w hR hd hk K hK
            have e86 : ac.tmps[86]?.getD undef = (.int .u32 (U1 : Int) : Value) := slot ((hd 9 _ 86 rfl rfl rfl).val rfl)
            have e88 : ac.tmps[88]?.getD undef = (.int .u32 ((T : Nat) : Int) : Value) := slot ((hd 11 _ 88 rfl rfl rfl).val rfl)
            refine yes (want_g rfl rfl ((hd 5 _ 82 rfl rfl rfl).val rfl)) ?_
            have hv := hid (hK (.int .u32 (U2 : Int)) w (PrV.is rfl rfl) (Below.refl _ _))
            go_simp
            refine kq hv.out ?_
            rw [← hand2]
          · intro ac w hR hd hk K hK
            have e84 : ac.tmps[84]?.getD undef = (.int .u32 (U2 : Int) : Value) := slot ((hd 7 _ 84 rfl rfl rfl).val rfl)
            have e89 : ac.tmps[89]?.getD undef = (.int .u32 (U2 : Int) : Value) := slot ((hd 12 _ 89 rfl rfl rfl).val rfl)
            refine yes (want_g rfl rfl ((hd 5 _ 82 rfl rfl rfl).val rfl)) ?_
            have hv := hid (hK (.bool true) w (PrV.is rfl rfl) (Below.refl _ _))
            go_simp
            refine kq hv.out ?_
            simp
          · exact fun ac w hR hd hk K hK => yes (want_n rfl) (wp_pick _ _ _ rfl true _ ((hd 5 _ 82 rfl rfl rfl).val rfl) ((hd 13 _ 90 rfl rfl rfl).val rfl) (hK _ w (PrV.is rfl rfl) (Below.refl _ _)))
          · exact fun ac w hR hd hk K hK => yes (want_n rfl) (wp_mv _ rfl _ ((hd 14 _ 91 rfl rfl rfl).val rfl) (hK _ w (PrV.is rfl rfl) (Below.refl _ _)))
          · exact fun ac w hR hd hk K hK => yes (want_g rfl rfl ((hd 15 _ 92 rfl rfl rfl).val rfl)) (wp_mv _ rfl _ (get_keep (hk 11 (no_dst (by kernel_rfl))) rfl) (hK _ w (PrV.is rfl rfl) (Below.refl _ _)))
          · exact fun ac w hR hd hk K hK => yes (want_g rfl rfl ((hd 15 _ 92 rfl rfl rfl).val rfl)) (wp_mv _ rfl _ (get_keep (hk 7 (no_dst (by kernel_rfl))) rfl) (hK _ w (PrV.is rfl rfl) (Below.refl _ _)))
          · exact fun ac w hR hd hk K hK => yes (want_g rfl rfl ((hd 15 _ 92 rfl rfl rfl).val rfl)) (wp_mv _ rfl _ (get_keep (hk 8 (no_dst (by kernel_rfl))) rfl) (hK _ w (PrV.is rfl rfl) (Below.refl _ _)))
          · exact fun ac w hR hd hk K hK => yes (want_g rfl rfl ((hd 15 _ 92 rfl rfl rfl).val rfl)) (wp_callv 21 _ _ rfl _ Try.func21 rfl rfl _ (args3 ((hd 16 _ 93 rfl rfl rfl).val rfl) ((hd 17 _ 94 rfl rfl rfl).val rfl) ((hd 18 _ 95 rfl rfl rfl).val rfl)) (kA w hR) (by rintro e w' ⟨rfl, hb⟩; exact ⟨_, rfl, hK _ w' (PrV.is rfl rfl) (hb)⟩))
          · exact fun ac w hR hd hk K hK => yes (want_g rfl rfl ((hd 15 _ 92 rfl rfl rfl).val rfl)) (wp_mv _ rfl _ (get_keep (hk 9 (no_dst (by kernel_rfl))) rfl) (hK _ w (PrV.is rfl rfl) (Below.refl _ _)))
          · intro ac w hR hd hk K hK
            have e96 : ac.tmps[96]?.getD undef = (.int .u32 (A1 : Int) : Value) := slot ((hd 19 _ 96 rfl rfl rfl).val rfl)
            have e97 : ac.tmps[97]?.getD undef = (.int .u32 (A1 : Int) : Value) := slot ((hd 20 _ 97 rfl rfl rfl).val rfl)
            refine yes (want_g rfl rfl ((hd 15 _ 92 rfl rfl rfl).val rfl)) ?_
            have hv := hid (hK (.bool true) w (PrV.is rfl rfl) (Below.refl _ _))
            go_simp
            refine kq hv.out ?_
            simp
          · exact fun ac w hR hd hk K hK => yes (want_n rfl) (wp_pick _ _ _ rfl true _ ((hd 15 _ 92 rfl rfl rfl).val rfl) ((hd 21 _ 98 rfl rfl rfl).val rfl) (hK _ w (PrV.is rfl rfl) (Below.refl _ _)))
          · exact fun ac w hR hd hk K hK => yes (want_n rfl) (wp_mv _ rfl _ ((hd 22 _ 99 rfl rfl rfl).val rfl) (hK _ w (PrV.is rfl rfl) (Below.refl _ _)))
          · exact fun ac w hR hd hk K hK => yes (want_g rfl rfl ((hd 23 _ 100 rfl rfl rfl).val rfl)) (wp_mv _ rfl _ (get_keep (hk 11 (no_dst (by kernel_rfl))) rfl) (hK _ w (PrV.is rfl rfl) (Below.refl _ _)))
          · intro ac w hR hd hk K hK
            refine yes (want_g rfl rfl ((hd 23 _ 100 rfl rfl rfl).val rfl)) ?_
            refine wp_callv 19 _ _ rfl _ Try.func19 rfl rfl _ (args1 ((hd 24 _ 101 rfl rfl rfl).val rfl)) (kC2 w hR) ?_
            rintro e w' ⟨g, rfl, hc, hb⟩
            exact ⟨_, rfl, hK _ w' (PrV.by rfl ⟨g, rfl, hc⟩) hb⟩
          · exact fun ac w hR hd hk K hK => yes (want_g rfl rfl ((hd 23 _ 100 rfl rfl rfl).val rfl)) (wp_mv _ rfl _ (get_keep (hk 0 (no_dst (by kernel_rfl))) rfl) (hK _ w (PrV.is rfl rfl) (Below.refl _ _)))
          · intro ac w hR hd hk K hK
            refine yes (want_g rfl rfl ((hd 23 _ 100 rfl rfl rfl).val rfl)) ?_
            refine wp_callv 19 _ _ rfl _ Try.func19 rfl rfl _ (args1 ((hd 26 _ 103 rfl rfl rfl).val rfl)) (kC1 w hR) ?_
            rintro e w' ⟨g, rfl, hc, hb⟩
            exact ⟨_, rfl, hK _ w' (PrV.by rfl ⟨g, rfl, hc⟩) hb⟩
          · intro ac w hR hd hk K hK
            obtain ⟨g1, e1, c1⟩ := (hd 25 _ 102 rfl rfl rfl).out rfl
            obtain ⟨g2, e2, c2⟩ := (hd 27 _ 104 rfl rfl rfl).out rfl
            refine yes (want_g rfl rfl ((hd 23 _ 100 rfl rfl rfl).val rfl)) ?_
            refine wp_callv 18 _ _ rfl _ Try.func18 rfl rfl _ (args2 e1 e2) (samei_any _ _ n n n Cs w hCs.out (by omega) c1 c2) ?_
            rintro e w' ⟨rfl, hb⟩
            exact ⟨_, rfl, hK _ w' (PrV.is rfl rfl) hb⟩
          · exact fun ac w hR hd hk K hK => yes (want_n rfl) (wp_pick _ _ _ rfl true _ ((hd 23 _ 100 rfl rfl rfl).val rfl) ((hd 28 _ 105 rfl rfl rfl).val rfl) (hK _ w (PrV.is rfl rfl) (Below.refl _ _)))
          · exact fun ac w hR hd hk K hK => yes (want_n rfl) (wp_mv _ rfl _ ((hd 29 _ 106 rfl rfl rfl).val rfl) (hK _ w (PrV.is rfl rfl) (Below.refl _ _)))
          · exact fun ac w hR hd hk K hK => yes (want_g rfl rfl ((hd 30 _ 107 rfl rfl rfl).val rfl)) (wp_callv 23 _ _ rfl _ Try.func23 rfl rfl _ (args0) (awake_any w) (by rintro e w' ⟨rfl, hb⟩; exact ⟨_, rfl, hK _ w' (PrV.is rfl rfl) (hb)⟩))
          · exact fun ac w hR hd hk K hK => yes (want_n rfl) (wp_pick _ _ _ rfl true _ ((hd 30 _ 107 rfl rfl rfl).val rfl) ((hd 31 _ 108 rfl rfl rfl).val rfl) (hK _ w (PrV.is rfl rfl) (Below.refl _ _)))
          · exact fun ac w hR hd hk K hK => yes (want_n rfl) (wp_as _ rfl _ ((hd 32 _ 109 rfl rfl rfl).val rfl) (hK _ w (PrV.is rfl rfl) (Below.refl _ _)))
        · intro a w8 hdf hsz hkp hval hRw
          obtain ⟨f, hf⟩ : ∃ f, f = fun d => a.tmps.getD d undef := ⟨_, rfl⟩
          have h6 : f 6 = .bool true := by rw [hf]; exact (hval 33 _ 6 rfl rfl).val rfl
          have hfa := act_filled hdf hsz hkp
          rw [← hf] at hfa
          rw [hfa]
          clear hdf hsz hkp hval hfa hf
          clear a
          simp only [fillAll, List.set_cons_zero, List.set_cons_succ, h6]
          clear h6
          have B8 := bnext B7 hRw
          clear hRw
          go_wp2
          go_ret
          exact ⟨rfl, B8⟩

end Go.Proofs.Ytledgaiekbpndaa
