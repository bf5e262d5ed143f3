/- Rows of jobs: copies, and whether two are the same. -/
import Derived.Test.YtphkdjacladcpaaSm
import Derived.Great.BuildSlice
namespace Go.Proofs.Ytphkdjacladcpaa
open Go.RowKit
set_option linter.unusedVariables false
set_option linter.unusedSimpArgs false

set_option maxRecDepth 100000 in
set_option maxHeartbeats 2000000 in
theorem copyJ (a : Option Addr) (k c : Nat) (M : List (Job × List Dp)) (w : World) (hn : M.length = k) (hl : k * 184 ≤ 140737488355328) (hat : JAt w a (M.map (·.1))) (hin : JIn w M) :
    Calls Try.prog 8 #[.slice a k c] w fun e w' => ∃ ra rc M', e = .returned (.slice ra k rc) ∧ k ≤ rc ∧ JO w' w.heap.size (.slice ra k rc) M' ∧ ReJ M M' ∧ Below w.heap.size w w' := by
  obtain ⟨i0, hi, hz0, hz1, hz2⟩ := info_parts info53
  have hmn : (M.map (·.1)).length = k := by rw [List.length_map]; exact hn
  replace hn := hid hn
  replace hmn := hid hmn
  replace hat := hid hat
  replace hin := hid hin
  go_enter Try.func8, Try.ntmps8
  go_wp2_with fail
  go_loopw [3, 4] (fun v i wr => ∃ (j : Nat) (M' : List (Job × List Dp)), j ≤ k ∧ i = .int .i64 (j : Int) ∧ Hid (JO wr w.heap.size v M' ∧ ReJ (M.take j) M') ∧ Below w.heap.size w wr) (fun _ i _ => k - (intOf i).toNat)
  case atStart => exact ⟨0, [], Nat.zero_le _, rfl, hid ⟨JO.nil _ _, trivial⟩, Below.refl _ _⟩
  case round =>
    obtain ⟨j, M', hj, rfl, hown, hb⟩ := hrel
    have hlenM : Hid (M'.length = j) := hid (by rw [reJ_len hown.out.2, List.length_take]; have := hn.out; omega)
    obtain ⟨va, vc, e, hvc⟩ := owns_form hown.out.1.own
    subst e
    rw [hlenM.out] at hown hvc ⊢
    by_cases hlt : j < k
    · have hjL : j < (M.map (·.1)).length := by rw [hmn.out]; exact hlt
      have hjM : j < M.length := by rw [hn.out]; exact hlt
      obtain ⟨b, o, e⟩ := hat.out.place (by omega)
      subst e
      have hcj := hid ((hat.out.below hb).range hjL)
      obtain ⟨hd1, hd2, hd3⟩ := (hin.out.below hb) M[j] (List.getElem_mem hjM)
      have hMj : M[j].1 = jobAt (M.map (·.1)) j := by rw [← jobAt_eq hjL]; simp
      rw [hMj] at hd1 hd2 hd3
      have hnext : Hid (M.take (j + 1) = M.take j ++ [(jobAt (M.map (·.1)) j, M[j].2)]) := hid (by rw [take_more hjM, ← hMj])
      generalize M[j].2 = D at *
      generalize jobAt (M.map (·.1)) j = J at *
      replace hMj := hid hMj
      have kC := copyjob J D wr hd1 hd3 hd2
      replace hd1 := hid hd1
      replace hd2 := hid hd2
      have hbd : (j + 1) * 184 ≤ 140737488355328 := Nat.le_trans (Nat.mul_le_mul_right _ hlt) hl
      go_wp2_with (refine wpList_load_mid rfl 42 (.tmp 14) rfl b (o + j * 17) rfl (jc J) _ hcj.out Try.underlying42 rfl (by kernel_rfl) ?_)
      refine kC.mono ?_
      rintro e w1 ⟨x, y, rfl, hy, ho, hb1⟩
      have B1 := bnext hb hb1
      have bl := below_lit w1 (.cells (jc (J.re x y)).toArray 42)
      have B2 := bnext B1 bl
      have hJO := hid ((hown.out.1.below hb1).below bl)
      have ho2 : DOwn (w1.alloc (.cells (jc (J.re x y)).toArray 42)) w.heap.size (.slice x J.s.dn y) D := owns_low (ho.below bl) (by have := hb.size; omega)
      have hoff : ∀ z, x = some z → (Value.slice va j vc).ownBlock ≠ some z.block := fun z hz he => by
        subst hz
        have h1 := owns_lt hown.out.1.own he
        have h2 := (owns_blk ho).1
        omega
      have hcat := hid (cat_lit w1 42 (jc (J.re x y)) (jc (J.re x y)).toArray rfl)
      have hone := hid (jc_one (J.re x y))
      have hown2' : (w1.alloc (.cells (jc (J.re x y)).toArray 42)).ownsRow w.heap.size 42 17 (.slice va j vc) j ((M'.map (·.1)).flatMap jc) := by
        have := hJO.out.own
        rw [hlenM.out] at this
        exact this
      replace hown2' := hid hown2'
      replace ho2 := hid ho2
      replace hoff := hid hoff
      replace ho := hid ho
      clear hcj
      go_wp2_with (first | (refine wpList_one rfl 23 42 (.tmp 16) rfl (jc (J.re x y)).toArray 17 i0 _ Try.underlying23 hi hz0 hz1 (by omega) (by omega) rfl rfl ?_) | (at_builtin; refine Hid.out ?_))
      refine wpList_cat _ rfl (.tmp 11) (.tmp 17) 23 rfl w.heap.size 42 i0 _ 17 184 Try.underlying23 hi hz0 hz1 hz2 rfl (by omega) _ _ _ rfl hown2'.out (some ⟨w1.heap.size, 0, none⟩) 1 1 (jc (J.re x y)) rfl rfl hcat.out hone.out (by unfold maxLen; omega) hbd B2.size ?_
      intro v' w4 ho4 hg4 hv4
      have hJ4 := hid (JO.more hJO.out hlenM.out (x := J.re x y) (D := D) ho2.out hoff.out hg4 ho4 hv4)
      have B4 : Below w.heap.size w w4 := Below.grown B2 hg4 B2.size (fun j hj => (hown2'.out.lt _ hj).1)
      have hre := hid (reJ_snoc (p := (J, D)) (q := (J.re x y, D)) hown.out.2 ⟨x, y, rfl⟩ rfl)
      clear ho4 hg4 hv4 hcat
      go_wp2_with fail
      go_roundw
      case rel => exact ⟨j + 1, M' ++ [(J.re x y, D)], by omega, by go_num, hid ⟨hJ4.out, by rw [hnext.out]; exact hre.out⟩, B4⟩
      case measure => simp [intOf]; omega
    · have hje : j = k := by omega
      subst hje
      have hf : M.take j = M := by rw [← hn.out, List.take_length]
      rw [hf] at hown
      replace hf := hid hf
      go_wp2
      go_ret
      exact ⟨va, vc, M', rfl, hvc, hown.out.1, hown.out.2, hb⟩

set_option maxRecDepth 100000 in
set_option maxHeartbeats 2000000 in
theorem sameJ (a : Option Addr) (a' : Option Addr) (k c c' : Nat) (M M' : List (Job × List Dp)) (w : World) (hn : M.length = k) (hl : k ≤ 4611686018427387904) (hre : ReJ M M') (h1 : JAt w a (M'.map (·.1))) (h2 : JAt w a' (M.map (·.1))) (d1 : ∀ p ∈ M', DAt w p.1.s.da p.2) (d2 : JIn w M) :
    Calls Try.prog 16 #[.slice a k c, .slice a' k c'] w fun e w' => e = .returned (.bool true) ∧ Below w.heap.size w w' := by
  have hn' := reJ_len hre
  replace hn := hid hn
  replace hn' := hid hn'
  replace hre := hid hre
  replace h1 := hid h1
  replace h2 := hid h2
  replace d1 := hid d1
  replace d2 := hid d2
  go_enter Try.func16, Try.ntmps16
  go_wp2_with fail
  go_loopw [5] (fun i wr => ∃ j : Nat, j ≤ k ∧ i = .int .i64 (j : Int) ∧ Below w.heap.size w wr) (fun i _ => k - (intOf i).toNat)
  case atStart => exact ⟨0, Nat.zero_le _, rfl, Below.refl _ _⟩
  case round =>
    obtain ⟨i, hi, rfl, hb⟩ := hrel
    by_cases hlt : i < k
    · have hiM : i < M.length := by rw [hn.out]; exact hlt
      have hiM' : i < M'.length := by rw [hn'.out]; exact hiM
      have e1 : i < (M.map (·.1)).length := by rw [List.length_map]; exact hiM
      have e2 : i < (M'.map (·.1)).length := by rw [List.length_map]; exact hiM'
      obtain ⟨b, o, e⟩ := h1.out.place (by omega)
      subst e
      obtain ⟨b', o', e⟩ := h2.out.place (by omega)
      subst e
      have r1 := (h1.out.below hb).range e2
      have r2 := (h2.out.below hb).range e1
      obtain ⟨⟨xa, xc, hx⟩, hx2⟩ := reJ_at hre.out i hiM hiM'
      have g1 : jobAt (M'.map (·.1)) i = M'[i].1 := by rw [← jobAt_eq e2]; simp
      have g2 : jobAt (M.map (·.1)) i = M[i].1 := by rw [← jobAt_eq e1]; simp
      obtain ⟨u1, u2, u3⟩ := d2.out M[i] (List.getElem_mem hiM)
      have u4 := d1.out M'[i] (List.getElem_mem hiM')
      rw [g1, hx] at r1
      rw [g2] at r2
      rw [hx2, hx] at u4
      have hik : i < k := hlt
      have hiz : (0 : Int) ≤ (i : Int) := by omega
      have kS := fun wx (h : Below wr.heap.size wr wx) => samejob M[i].1 M[i].2 xa xc wx u1 (by omega) (CAt.below u4 (bnext hb h)) (u2.below (bnext hb h))
      replace hx := hid hx
      replace hx2 := hid hx2
      replace g1 := hid g1
      replace g2 := hid g2
      replace u1 := hid u1
      replace u2 := hid u2
      replace u4 := hid u4
      generalize M[i].1 = X at *
      generalize M[i].2 = Dx at *
      replace kS := hid kS
      replace r1 := hid r1
      replace r2 := hid r2
      go_wp2_with fail
      replace kS := kS.out
      replace r1 := r1.out
      replace r2 := r2.out
      refine wp_region_drawn (Rel := fun w w' => Below w.heap.size w w') (Pr := PrV (pv20 b o k c b' o' c' i X xa xc) [] (fun _ _ _ => True)) (by kernel_rfl) (by kernel_rfl) (drew_below _) bel_tr (PrV.mono (fun _ _ _ _ _ _ => trivial)) ?_ ?_
      · refine ⟨?_, ?_, ?_, ?_, ?_, ?_, ?_, ?_, ?_, ?_, trivial⟩
        · exact fun ac w hR hd hk K hK => yes (want_n rfl) (wp_mv _ rfl _ (get_keep (hk 0 (no_dst (by kernel_rfl))) rfl) (hK _ w (PrV.is rfl rfl) (Below.refl _ _)))
        · exact fun ac w hR hd hk K hK => yes (want_n rfl) (wp_mv _ rfl _ (get_keep (hk 5 (no_dst (by kernel_rfl))) rfl) (hK _ w (PrV.is rfl rfl) (Below.refl _ _)))
        · intro ac w hR hd hk K hK
          have e17 : ac.tmps[17]?.getD undef = (.slice (some ⟨b, o, none⟩) k c : Value) := slot ((hd 0 _ 17 rfl rfl rfl).val rfl)
          have e18 : ac.tmps[18]?.getD undef = (.int .i64 (i : Int) : Value) := slot ((hd 1 _ 18 rfl rfl rfl).val rfl)
          have i1 := hik
          have i2 := hiz
          refine yes (want_n rfl) ?_
          have hv := hid (hK (.pointer (some ⟨b, o + i * 17, none⟩)) w (PrV.is rfl rfl) (Below.refl _ _))
          go_simp
          refine kq hv.out ?_
          rfl
        · exact fun ac w hR hd hk K hK => yes (want_n rfl) (wp_load_mid 42 _ rfl b (o + i * 17) ((hd 2 _ 19 rfl rfl rfl).val rfl) (jc (X.re xa xc)) _ (range_below r1 hR) Try.underlying42 rfl (by kernel_rfl) (hK _ w (PrV.is rfl rfl) (Below.refl _ _)))
        · exact fun ac w hR hd hk K hK => yes (want_n rfl) (wp_mv _ rfl _ (get_keep (hk 1 (no_dst (by kernel_rfl))) rfl) (hK _ w (PrV.is rfl rfl) (Below.refl _ _)))
        · exact fun ac w hR hd hk K hK => yes (want_n rfl) (wp_mv _ rfl _ (get_keep (hk 5 (no_dst (by kernel_rfl))) rfl) (hK _ w (PrV.is rfl rfl) (Below.refl _ _)))
        · intro ac w hR hd hk K hK
          have e21 : ac.tmps[21]?.getD undef = (.slice (some ⟨b', o', none⟩) k c' : Value) := slot ((hd 4 _ 21 rfl rfl rfl).val rfl)
          have e22 : ac.tmps[22]?.getD undef = (.int .i64 (i : Int) : Value) := slot ((hd 5 _ 22 rfl rfl rfl).val rfl)
          have i1 := hik
          have i2 := hiz
          refine yes (want_n rfl) ?_
          have hv := hid (hK (.pointer (some ⟨b', o' + i * 17, none⟩)) w (PrV.is rfl rfl) (Below.refl _ _))
          go_simp
          refine kq hv.out ?_
          rfl
        · exact fun ac w hR hd hk K hK => yes (want_n rfl) (wp_load_mid 42 _ rfl b' (o' + i * 17) ((hd 6 _ 23 rfl rfl rfl).val rfl) (jc X) _ (range_below r2 hR) Try.underlying42 rfl (by kernel_rfl) (hK _ w (PrV.is rfl rfl) (Below.refl _ _)))
        · exact fun ac w hR hd hk K hK => yes (want_n rfl) (wp_callv 28 _ _ rfl _ Try.func28 rfl rfl _ (args2 ((hd 3 _ 20 rfl rfl rfl).val rfl) ((hd 7 _ 24 rfl rfl rfl).val rfl)) (kS w hR) (by rintro e w' ⟨rfl, hb⟩; exact ⟨_, rfl, hK _ w' (PrV.is rfl rfl) (hb)⟩))
        · intro ac w hR hd hk K hK
          have e25 : ac.tmps[25]?.getD undef = (.bool true : Value) := slot ((hd 8 _ 25 rfl rfl rfl).val rfl)
          refine yes (want_n rfl) ?_
          have hv := hid (hK (.bool false) w (PrV.is rfl rfl) (Below.refl _ _))
          go_simp
          refine kq hv.out ?_
          rfl
      · intro a w5 hdf hsz hkp hval hRw
        obtain ⟨f, hf⟩ : ∃ f, f = fun d => a.tmps.getD d undef := ⟨_, rfl⟩
        have h26 : f 26 = .bool false := by rw [hf]; exact (hval 9 _ 26 rfl rfl).val rfl
        have hfa := act_filled hdf hsz hkp
        rw [← hf] at hfa
        rw [hfa]
        clear hdf hsz hkp hval hfa hf
        clear a
        simp only [fillAll, List.set_cons_zero, List.set_cons_succ, h26]
        clear h26
        have B5 := bnext hb hRw
        go_wp2_with fail
        go_roundw
        case rel => exact ⟨i + 1, by omega, by go_num, B5⟩
        case measure => simp [intOf]; omega
    · have hje : i = k := by omega
      subst hje
      go_wp2
      go_ret
      exact ⟨rfl, hb⟩

end Go.Proofs.Ytphkdjacladcpaa
