/- The document's side: right lists, copies, new nodes, nodes that fail and rise; whether lists are the same. -/
import Derived.Test.YtledgaiekbpndaaTurn
namespace Go.Proofs.Ytledgaiekbpndaa
open Go.RowKit

theorem node_no {L : List Nod} {j : Nat} (hj : j < L.length) (h : ¬ (1 ≤ (nodAt L j).1 ∧ (nodAt L j).1 ≤ 64 ∧ 1 ≤ (nodAt L j).2.2 ∧ (nodAt L j).2.2 ≤ 1073741824)) : rightB L = false := by
  unfold rightB
  rw [all_no hj (decide_eq_false h), Bool.and_false]

set_option maxRecDepth 100000 in
set_option maxHeartbeats 1000000 in
theorem rightr_any (a : Option Addr) (n c : Nat) (L : List Nod) (w : World) (hn : L.length = n) (hl : n ≤ 4611686018427387904) (hat : DAt w a L) :
    Calls Try.prog 15 #[.slice a n c] w fun e w' => e = .returned (.bool (rightB L)) ∧ Below w.heap.size w w' := by
  replace hn := hid hn
  replace hat := hid hat
  go_enter Try.func15, Try.ntmps15
  go_wp2_with fail
  go_loopw [3] (fun i wr => ∃ j : Nat, j ≤ n ∧ i = .int .i64 (j : Int) ∧ Hid (AllTo L j) ∧ wr = w) (fun i _ => n - (intOf i).toNat)
  case atStart => exact ⟨0, Nat.zero_le _, rfl, hid (AllTo.zero L), rfl⟩
  case round =>
    obtain ⟨j, hj, rfl, hok, rfl⟩ := hrel
    by_cases hlt : j < n
    · have hjL : j < L.length := by rw [hn.out]; exact hlt
      obtain ⟨b, o, e⟩ := hat.out.place (by omega)
      subst e
      obtain ⟨x0, x1, x2⟩ := hat.out.one hjL
      by_cases h1 : (nodAt L j).1 < 1
      · have hf := hid (node_no hjL (by omega))
        have d1 : decide ((nodAt L j).1 < 1) = true := by simpa using h1
        generalize nodAt L j = X at *
        obtain ⟨X0, X1, X2⟩ := X
        dsimp only at *
        go_wp2
        go_ret
        rw [hf.out]; exact ⟨rfl, Below.refl _ _⟩
      have d1 : decide ((nodAt L j).1 < 1) = false := by simpa using h1
      by_cases h2 : 64 < (nodAt L j).1
      · have hf := hid (node_no hjL (by omega))
        have d2 : decide (64 < (nodAt L j).1) = true := by simpa using h2
        generalize nodAt L j = X at *
        obtain ⟨X0, X1, X2⟩ := X
        dsimp only at *
        go_wp2
        go_ret
        rw [hf.out]; exact ⟨rfl, Below.refl _ _⟩
      have d2 : decide (64 < (nodAt L j).1) = false := by simpa using h2
      by_cases h3 : (nodAt L j).2.2 < 1
      · have hf := hid (node_no hjL (by omega))
        have d3 : decide ((nodAt L j).2.2 < 1) = true := by simpa using h3
        generalize nodAt L j = X at *
        obtain ⟨X0, X1, X2⟩ := X
        dsimp only at *
        go_wp2
        go_ret
        rw [hf.out]; exact ⟨rfl, Below.refl _ _⟩
      have d3 : decide ((nodAt L j).2.2 < 1) = false := by simpa using h3
      by_cases h4 : 1073741824 < (nodAt L j).2.2
      · have hf := hid (node_no hjL (by omega))
        have d4 : decide (1073741824 < (nodAt L j).2.2) = true := by simpa using h4
        generalize nodAt L j = X at *
        obtain ⟨X0, X1, X2⟩ := X
        dsimp only at *
        go_wp2
        go_ret
        rw [hf.out]; exact ⟨rfl, Below.refl _ _⟩
      have d4 : decide (1073741824 < (nodAt L j).2.2) = false := by simpa using h4
      have hok2 := hid (hok.out.next hjL (decide_eq_true ⟨by omega, by omega, by omega, by omega⟩))
      generalize nodAt L j = X at *
      obtain ⟨X0, X1, X2⟩ := X
      dsimp only at *
      go_wp2_with fail
      go_roundw
      case rel => exact ⟨j + 1, by omega, by go_num, hok2, trivial⟩
      case measure => simp [intOf]; omega
    · have hje : j = n := by omega
      subst hje
      have hall := AllTo.all (L := L) (by rw [hn.out]; exact hok.out)
      by_cases h1 : 1 ≤ j
      · have d1 : decide ((1 : Int) ≤ (j : Int)) = true := by simp; omega
        by_cases h2 : j ≤ 32
        · have d2 : decide ((j : Int) ≤ 32) = true := by simp; omega
          have hf := hid (show rightB L = true by rw [right_len (by rw [hn.out]; exact ⟨h1, h2⟩)]; exact hall)
          replace hall := hid hall
          go_wp2
          go_ret
          rw [hf.out]; exact ⟨rfl, Below.refl _ _⟩
        · have d2 : decide ((j : Int) ≤ 32) = false := by simp; omega
          have hf := hid (right_no (L := L) (by rw [hn.out]; omega))
          replace hall := hid hall
          go_wp2
          go_ret
          rw [hf.out]; exact ⟨rfl, Below.refl _ _⟩
      · have d1 : decide ((1 : Int) ≤ (j : Int)) = false := by simp; omega
        have hf := hid (right_no (L := L) (by rw [hn.out]; omega))
        replace hall := hid hall
        go_wp2
        go_ret
        rw [hf.out]; exact ⟨rfl, Below.refl _ _⟩

set_option maxHeartbeats 400000 in
theorem copyn_any (a : Option Addr) (n c : Nat) (L : List Nod) (w : World) (hn : L.length = n) (hl : n * 24 ≤ 140737488355328) (hat : DAt w a L) :
    Calls Try.prog 6 #[.slice a n c] w fun e w' => ∃ ad k, e = .returned (.slice ad n k) ∧ n ≤ k ∧ DOwn w' w.heap.size (.slice ad n k) L ∧ Below w.heap.size w w' := by
  obtain ⟨i0, hi0, hz0, hz1, hz2⟩ := info_parts info38
  replace hn := hid hn
  replace hat := hid hat
  go_enter Try.func6, Try.ntmps6
  go_wp2_with fail
  go_loopw [3, 4] (fun v i wr => ∃ j : Nat, j ≤ n ∧ i = .int .i64 (j : Int) ∧ DOwn wr w.heap.size v (L.take j) ∧ Below w.heap.size w wr) (fun _ i _ => n - (intOf i).toNat)
  case atStart => exact ⟨0, Nat.zero_le _, rfl, DOwn.nil _ _, Below.refl _ _⟩
  case round =>
    obtain ⟨j, hj, rfl, hv, hb⟩ := hrel
    by_cases hlt : j < n
    · have hjL : j < L.length := by rw [hn.out]; exact hlt
      obtain ⟨b, o, e⟩ := hat.out.place (by omega)
      subst e
      obtain ⟨x0, x1, x2⟩ := (hat.out.below hb).one hjL
      have hts : L.take (j + 1) = L.take j ++ [nodAt L j] := by rw [take_more hjL, nodAt_eq hjL]
      have htl : (L.take j).length = j := by rw [List.length_take]; omega
      generalize nodAt L j = X at *
      generalize L.take j = T at *
      replace hts := hid hts
      replace hv := hid hv
      replace htl := hid htl
      obtain ⟨X0, X1, X2⟩ := X
      dsimp only at *
      go_wp2_with (at_builtin; refine Hid.out ?_)
      have bl := below_lit wr (.cells #[.int .i64 X0, .bool X1, .int .i64 X2] 38)
      have hv2 := hv.out.below bl
      unfold DOwn at hv2
      rw [htl.out] at hv2
      have B1 := bnext hb bl
      refine wpList_cat _ rfl (.tmp 11) (.tmp 16) 23 rfl w.heap.size 38 i0 _ 3 24 Try.underlying23 hi0 hz0 hz1 hz2 rfl (by omega) _ _ _ rfl hv2 (some ⟨wr.heap.size, 0, none⟩) 1 _ [.int .i64 X0, .bool X1, .int .i64 X2] rfl rfl (cat_lit _ _ _ _ rfl) (three_one (X0, X1, X2)) (by unfold maxLen; omega) (by omega) B1.size ?_
      intro v3 w3 hr3 hg3 hv3
      go_wp2_with fail
      go_roundw
      case rel =>
        refine ⟨j + 1, by omega, by go_num, ?_, ?_⟩
        · rw [hts.out]
          unfold DOwn
          rw [List.length_append, htl.out, nc_snoc]
          exact hr3
        · exact B1.grown hg3 B1.size (fun k hk => (hv2.lt k hk).1)
      case measure => simp [intOf]; omega
    · have hje : j = n := by omega
      subst hje
      have ht : L.take j = L := by rw [← hn.out, List.take_length]
      rw [ht] at hv
      obtain ⟨ad, k, rfl, hlk⟩ := owns_form hv
      rw [hn.out] at hv hlk ⊢
      replace hv := hid hv
      go_wp2
      go_ret
      exact ⟨_, _, rfl, hlk, hv.out, hb⟩

theorem copyn_pos (a : Option Addr) (n c : Nat) (L : List Nod) (w : World) (hn : L.length = n) (hl : n * 24 ≤ 140737488355328) (h0 : 0 < n) (hat : DAt w a L) :
    Calls Try.prog 6 #[.slice a n c] w fun e w' => ∃ g k, e = .returned (.slice (some ⟨g, 0, none⟩) n k) ∧ n ≤ k ∧ DOwn w' w.heap.size (.slice (some ⟨g, 0, none⟩) n k) L ∧ Below w.heap.size w w' := by
  refine (copyn_any a n c L w hn hl hat).mono ?_
  rintro e w' ⟨ad, k, rfl, h1, h2, h3⟩
  obtain ⟨g, c', e, _⟩ := owns_spot h2 (by omega)
  simp only [Value.slice.injEq] at e
  obtain ⟨rfl, _, _⟩ := e
  exact ⟨g, k, rfl, h1, h2, h3⟩

theorem copied_ofr {w w' : World} {L : List Nod} {g n cc : Nat} (h : DOwn w' w.heap.size (.slice (some ⟨g, 0, none⟩) n cc) L) (hn : L.length = n) {k : Nat} (hk : k < n) :
    g < w'.heap.size ∧ w.heap.size ≤ g ∧ (∀ i, w'.frozen? ⟨g, i, none⟩ = false) ∧ w'.cell? ⟨g, k * 3, none⟩ = some (.int .i64 (nodAt L k).1) ∧ w'.cell? ⟨g, k * 3 + 1, none⟩ = some (.bool (nodAt L k).2.1) ∧ w'.cell? ⟨g, k * 3 + 2, none⟩ = some (.int .i64 (nodAt L k).2.2) := by
  subst hn
  obtain ⟨g', c', e, hb, hgl, _, hfz⟩ := owns_spot h (by omega)
  simp only [Value.slice.injEq, Option.some.injEq, Addr.mk.injEq] at e
  obtain ⟨⟨e, _, _⟩, _, _⟩ := e
  subst e
  have h1 := h.dat.one hk
  simp only [Nat.zero_add] at h1
  exact ⟨hgl, hb, hfz, h1⟩

set_option maxRecDepth 100000 in
set_option maxHeartbeats 600000 in
theorem newr_any (a : Option Addr) (n c : Nat) (Z : List Int) (w : World) (hn : Z.length = n) (hl : n * 24 ≤ 140737488355328) (hat : CAt w a (Z.map I)) :
    Calls Try.prog 8 #[.slice a n c] w fun e w' => NTold (newP Z) w e w' := by
  obtain ⟨i0, hi0, hz0, hz1, hz2⟩ := info_parts info38
  replace hn := hid hn
  replace hat := hid hat
  go_enter Try.func8, Try.ntmps8
  go_wp2_with fail
  go_loopw [4, 5] (fun v i wr => ∃ j : Nat, j ≤ n ∧ i = .int .i64 (j : Int) ∧ DOwn wr w.heap.size v (mkN (Z.take j)) ∧ Below w.heap.size w wr) (fun _ i _ => n - (intOf i).toNat)
  case atStart => exact ⟨0, Nat.zero_le _, rfl, DOwn.nil _ _, Below.refl _ _⟩
  case round =>
    obtain ⟨j, hj, rfl, hv, hb⟩ := hrel
    by_cases hlt : j < n
    · have hjL : j < Z.length := by rw [hn.out]; exact hlt
      obtain ⟨b, o, e⟩ := iat_place hat.out (by intro e; rw [e] at hjL; simp at hjL)
      subst e
      have x0 := iat_cell (CAt.below hat.out hb) j hjL
      have hts := hid (mkN_take hjL)
      have htl : (mkN (Z.take j)).length = j := by rw [mkN_len, List.length_take]; omega
      generalize Z[j] = X at *
      generalize mkN (Z.take j) = T at *
      replace hv := hid hv
      replace htl := hid htl
      go_wp2_with (at_builtin; refine Hid.out ?_)
      have bl := below_lit wr (.cells #[.int .i64 X, .bool true, .int .i64 1] 38)
      have hv2 := hv.out.below bl
      unfold DOwn at hv2
      rw [htl.out] at hv2
      have B1 := bnext hb bl
      refine wpList_cat _ rfl (.tmp 12) (.tmp 18) 23 rfl w.heap.size 38 i0 _ 3 24 Try.underlying23 hi0 hz0 hz1 hz2 rfl (by omega) _ _ _ rfl hv2 (some ⟨wr.heap.size, 0, none⟩) 1 _ [.int .i64 X, .bool true, .int .i64 1] rfl rfl (cat_lit _ _ _ _ rfl) (three_one (X, true, 1)) (by unfold maxLen; omega) (by omega) B1.size ?_
      intro v3 w3 hr3 hg3 hv3
      go_wp2_with fail
      go_roundw
      case rel =>
        refine ⟨j + 1, by omega, by go_num, ?_, ?_⟩
        · rw [hts.out]
          unfold DOwn
          rw [List.length_append, htl.out, nc_snoc]
          exact hr3
        · exact B1.grown hg3 B1.size (fun k hk => (hv2.lt k hk).1)
      case measure => simp [intOf]; omega
    · have hje : j = n := by omega
      subst hje
      have ht : Z.take j = Z := by rw [← hn.out, List.take_length]
      rw [ht] at hv
      obtain ⟨ad, k, rfl, hlk⟩ := owns_form hv
      have hlen : (mkN Z).length = j := by rw [mkN_len]; exact hn.out
      have kR := rightr_any ad (mkN Z).length k (mkN Z) wr rfl (by omega) hv.dat
      cases hB : rightB (mkN Z)
      · have hf := hid (show newP Z = ([], 2) by unfold newP; rw [hB]; rfl)
        rw [hB] at kR
        replace hB := hid hB
        replace hv := hid hv
        generalize (mkN Z).length = M at *
        replace hlen := hid hlen
        go_wp2_with fail
        refine kR.mono ?_
        rintro e w1 ⟨rfl, hb1⟩
        have B1 := bnext hb hb1
        go_wp2
        go_ret2
        rw [hf.out]
        exact NTold.none B1
      · have hf := hid (show newP Z = (mkN Z, 0) by unfold newP; rw [hB]; rfl)
        rw [hB] at kR
        replace hB := hid hB
        replace hv := hid hv
        obtain ⟨M, hM⟩ : ∃ M, M = (mkN Z).length := ⟨_, rfl⟩
        rw [← hM] at kR hlk ⊢
        replace hM := hid hM
        replace hlen := hid hlen
        go_wp2_with fail
        refine kR.mono ?_
        rintro e w1 ⟨rfl, hb1⟩
        have B1 := bnext hb hb1
        go_wp2
        go_ret2
        rw [hf.out]
        have hv1 := hv.out.below hb1
        rw [← hM.out] at hv1
        exact NTold.of hM.out.symm hlk hv1 B1

set_option maxRecDepth 100000 in
set_option maxHeartbeats 600000 in
theorem failr_any (a : Option Addr) (n c : Nat) (L : List Nod) (i : Int) (w : World) (hn : L.length = n) (hl : n ≤ 4611686018427387904) (hat : DAt w a L) :
    Calls Try.prog 10 #[.slice a n c, .int .i64 i] w fun e w' => NTold (failP L i) w e w' := by
  have kR := rightr_any a n c L w hn hl hat
  have hpn : placeB L.length i = placeB n i := by rw [hn]
  cases hB : rightB L
  · have hf := hid (show failP L i = ([], 2) by unfold failP; rw [hB]; rfl)
    rw [hB] at kR
    replace hn := hid hn
    replace hat := hid hat
    replace hpn := hid hpn
    replace hB := hid hB
    go_enter Try.func10, Try.ntmps10
    go_wp2_with fail
    refine kR.mono ?_
    rintro e w1 ⟨rfl, hb1⟩
    go_wp2
    go_ret2
    rw [hf.out]
    exact NTold.none hb1
  rw [hB] at kR
  by_cases h0 : i < 0
  · have hf := hid (show failP L i = ([], 2) by unfold failP; rw [hB, show placeB L.length i = false from decide_eq_false fun h => by omega]; rfl)
    have d0 : decide (i < 0) = true := by simpa using h0
    replace hn := hid hn
    replace hat := hid hat
    replace hpn := hid hpn
    replace hB := hid hB
    go_enter Try.func10, Try.ntmps10
    go_wp2_with fail
    refine kR.mono ?_
    rintro e w1 ⟨rfl, hb1⟩
    go_wp2
    go_ret2
    rw [hf.out]
    exact NTold.none hb1
  have d0 : decide (i < 0) = false := by simpa using h0
  by_cases h1 : (n : Int) ≤ i
  · have hf := hid (show failP L i = ([], 2) by unfold failP; rw [hB, show placeB L.length i = false from decide_eq_false fun h => by omega]; rfl)
    have d1 : decide ((n : Int) ≤ i) = true := by simpa using h1
    replace hn := hid hn
    replace hat := hid hat
    replace hpn := hid hpn
    replace hB := hid hB
    go_enter Try.func10, Try.ntmps10
    go_wp2_with fail
    refine kR.mono ?_
    rintro e w1 ⟨rfl, hb1⟩
    go_wp2
    go_ret2
    rw [hf.out]
    exact NTold.none hb1
  have d1 : decide ((n : Int) ≤ i) = false := by simpa using h1
  have hP : placeB n i = true := decide_eq_true ⟨by omega, by omega⟩
  obtain ⟨k, rfl, hk⟩ : ∃ k : Nat, i = (k : Int) ∧ k < n := ⟨i.toNat, by omega, by omega⟩
  have hjL : k < L.length := by omega
  have hlen := (right_is hB).1
  obtain ⟨b, o, e⟩ := hat.place (by omega)
  subst e
  have hkn : ((k : Int)).toNat = k := by omega
  have hgo : (rightB L && placeB L.length (k : Int)) = true := by rw [hB, hpn, hP]; rfl
  have hep := (right_is hB).2 _ (List.getElem_mem hjL)
  rw [nodAt_eq hjL] at hep
  replace hep := of_decide_eq_true hep
  obtain ⟨_, _, he1, he2⟩ := hep
  have n32 : n ≤ 32 := by omega
  have kC := fun w' (h : Below w.heap.size w w') => copyn_pos (some ⟨b, o, none⟩) n c L w' hn (by omega) (by omega) (hat.below h)
  replace hn := hid hn
  replace hat := hid hat
  replace hpn := hid hpn
  replace hB := hid hB
  replace hP := hid hP
  replace hgo := hid hgo
  replace hkn := hid hkn
  replace hlen := hid hlen
  cases hU : (nodAt L k).2.1
  · have hf := hid (show failP L (k : Int) = ([], 180) by unfold failP; rw [hgo.out, hkn.out, hU]; rfl)
    replace kC := hid kC
    go_enter Try.func10, Try.ntmps10
    go_wp2_with fail
    refine kR.mono ?_
    rintro e w1 ⟨rfl, hb1⟩
    obtain ⟨x0, x1, x2⟩ := (hat.out.below hb1).one hjL
    rw [hU] at x1
    go_wp2
    go_ret2
    rw [hf.out]
    exact NTold.none hb1
  · have hf := hid (show failP L (k : Int) = (failN L k, 0) by unfold failP; rw [hgo.out, hkn.out, hU]; rfl)
    go_enter Try.func10, Try.ntmps10
    go_wp2_with fail
    refine kR.mono ?_
    rintro e w1 ⟨rfl, hb1⟩
    obtain ⟨x0, x1, x2⟩ := (hat.out.below hb1).one hjL
    rw [hU] at x1
    go_wp2_with fail
    refine (kC _ hb1).mono ?_
    rintro e w3 ⟨g, cc, rfl, hnc, ho, hb3⟩
    have hc := copied_ofr ho hn.out hk
    obtain ⟨hgl, hgb, hfz, y0, y1, y2⟩ := hc
    have B3 := bnext hb1 hb3
    have hB4 := Below.setCell (p := ⟨g, k * 3 + 1, none⟩) B3 (Nat.le_trans hb1.size hgb) (.bool false)
    have hset := DOwn.set ho hn.out hk ((nodAt L k).1, false, (nodAt L k).2.2) 1 (.bool false) (by omega) rfl
    have hset2 := hset.low hb1.size
    have f1 := hfz (k * 3 + 1)
    clear hfz hset
    replace hset2 := hid hset2
    replace ho := hid ho
    go_wp2
    go_ret2
    rw [hf.out]
    have hln : (failN L k).length = n := by unfold failN; rw [List.length_set]; exact hn.out
    exact NTold.of hln hnc hset2.out hB4

set_option maxRecDepth 100000 in
set_option maxHeartbeats 600000 in
theorem riser_any (a : Option Addr) (n c : Nat) (L : List Nod) (i : Int) (w : World) (hn : L.length = n) (hl : n ≤ 4611686018427387904) (hat : DAt w a L) :
    Calls Try.prog 12 #[.slice a n c, .int .i64 i] w fun e w' => NTold (riseP L i) w e w' := by
  have kR := rightr_any a n c L w hn hl hat
  have hpn : placeB L.length i = placeB n i := by rw [hn]
  cases hB : rightB L
  · have hf := hid (show riseP L i = ([], 2) by unfold riseP; rw [hB]; rfl)
    rw [hB] at kR
    replace hn := hid hn
    replace hat := hid hat
    replace hpn := hid hpn
    replace hB := hid hB
    go_enter Try.func12, Try.ntmps12
    go_wp2_with fail
    refine kR.mono ?_
    rintro e w1 ⟨rfl, hb1⟩
    go_wp2
    go_ret2
    rw [hf.out]
    exact NTold.none hb1
  rw [hB] at kR
  by_cases h0 : i < 0
  · have hf := hid (show riseP L i = ([], 2) by unfold riseP; rw [hB, show placeB L.length i = false from decide_eq_false fun h => by omega]; rfl)
    have d0 : decide (i < 0) = true := by simpa using h0
    replace hn := hid hn
    replace hat := hid hat
    replace hpn := hid hpn
    replace hB := hid hB
    go_enter Try.func12, Try.ntmps12
    go_wp2_with fail
    refine kR.mono ?_
    rintro e w1 ⟨rfl, hb1⟩
    go_wp2
    go_ret2
    rw [hf.out]
    exact NTold.none hb1
  have d0 : decide (i < 0) = false := by simpa using h0
  by_cases h1 : (n : Int) ≤ i
  · have hf := hid (show riseP L i = ([], 2) by unfold riseP; rw [hB, show placeB L.length i = false from decide_eq_false fun h => by omega]; rfl)
    have d1 : decide ((n : Int) ≤ i) = true := by simpa using h1
    replace hn := hid hn
    replace hat := hid hat
    replace hpn := hid hpn
    replace hB := hid hB
    go_enter Try.func12, Try.ntmps12
    go_wp2_with fail
    refine kR.mono ?_
    rintro e w1 ⟨rfl, hb1⟩
    go_wp2
    go_ret2
    rw [hf.out]
    exact NTold.none hb1
  have d1 : decide ((n : Int) ≤ i) = false := by simpa using h1
  have hP : placeB n i = true := decide_eq_true ⟨by omega, by omega⟩
  obtain ⟨k, rfl, hk⟩ : ∃ k : Nat, i = (k : Int) ∧ k < n := ⟨i.toNat, by omega, by omega⟩
  have hjL : k < L.length := by omega
  have hlen := (right_is hB).1
  obtain ⟨b, o, e⟩ := hat.place (by omega)
  subst e
  have hkn : ((k : Int)).toNat = k := by omega
  have hgo : (rightB L && placeB L.length (k : Int)) = true := by rw [hB, hpn, hP]; rfl
  have hep := (right_is hB).2 _ (List.getElem_mem hjL)
  rw [nodAt_eq hjL] at hep
  replace hep := of_decide_eq_true hep
  obtain ⟨_, _, he1, he2⟩ := hep
  have n32 : n ≤ 32 := by omega
  have kC := fun w' (h : Below w.heap.size w w') => copyn_pos (some ⟨b, o, none⟩) n c L w' hn (by omega) (by omega) (hat.below h)
  replace hn := hid hn
  replace hat := hid hat
  replace hpn := hid hpn
  replace hB := hid hB
  replace hP := hid hP
  replace hgo := hid hgo
  replace hkn := hid hkn
  replace hlen := hid hlen
  cases hU : (nodAt L k).2.1
  · by_cases h30 : (nodAt L k).2.2 = 1073741824
    · have hf := hid (show riseP L (k : Int) = ([], 120) by unfold riseP; rw [hgo.out, hkn.out, hU, if_pos h30]; rfl)
      replace kC := hid kC
      go_enter Try.func12, Try.ntmps12
      go_wp2_with fail
      refine kR.mono ?_
      rintro e w1 ⟨rfl, hb1⟩
      obtain ⟨x0, x1, x2⟩ := (hat.out.below hb1).one hjL
      rw [hU] at x1
      rw [h30] at x2
      go_wp2
      go_ret2
      rw [hf.out]
      exact NTold.none hb1
    have hf := hid (show riseP L (k : Int) = (riseN L k, 0) by unfold riseP; rw [hgo.out, hkn.out, hU, if_neg h30]; rfl)
    have d30 : ((nodAt L k).2.2 == 1073741824) = false := by simpa using h30
    have hwr : IntKind.i64.wrap ((nodAt L k).2.2 + 1) = (nodAt L k).2.2 + 1 := by rw [IntKind.wrap_i64]; omega
    go_enter Try.func12, Try.ntmps12
    go_wp2_with fail
    refine kR.mono ?_
    rintro e w1 ⟨rfl, hb1⟩
    obtain ⟨x0, x1, x2⟩ := (hat.out.below hb1).one hjL
    rw [hU] at x1
    go_wp2_with fail
    refine (kC _ hb1).mono ?_
    rintro e w3 ⟨g, cc, rfl, hnc, ho, hb3⟩
    have hc := copied_ofr ho hn.out hk
    obtain ⟨hgl, hgb, hfz, y0, y1, y2⟩ := hc
    have B3 := bnext hb1 hb3
    have hB4 := Below.setCell (p := ⟨g, k * 3 + 2, none⟩) (Below.setCell (p := ⟨g, k * 3 + 1, none⟩) B3 (Nat.le_trans hb1.size hgb) (.bool true)) (Nat.le_trans hb1.size hgb) (.int .i64 ((nodAt L k).2.2 + 1))
    have hset := DOwn.set ho hn.out hk ((nodAt L k).1, true, (nodAt L k).2.2) 1 (.bool true) (by omega) rfl
    have hset2 := DOwn.set hset (by rw [List.length_set]; exact hn.out) hk ((nodAt L k).1, true, (nodAt L k).2.2 + 1) 2 (.int .i64 ((nodAt L k).2.2 + 1)) (by omega) (by rw [nodAt_set hjL]; rfl)
    rw [List.set_set] at hset2
    replace hset2 := hid (hset2.low hb1.size)
    have f1 := hfz (k * 3 + 1)
    have f2 := hfz (k * 3 + 2)
    clear hfz hset
    replace ho := hid ho
    generalize hX : nodAt L k = X at *
    replace hX := hid hX
    obtain ⟨X0, X1, X2⟩ := X
    dsimp only at *
    go_wp2
    go_ret2
    rw [hf.out]
    have hln : (riseN L k).length = n := by unfold riseN; rw [List.length_set]; exact hn.out
    exact NTold.of hln hnc (by unfold riseN; rw [hX.out]; exact hset2.out) hB4
  · have hf := hid (show riseP L (k : Int) = ([], 180) by unfold riseP; rw [hgo.out, hkn.out, hU]; rfl)
    replace kC := hid kC
    go_enter Try.func12, Try.ntmps12
    go_wp2_with fail
    refine kR.mono ?_
    rintro e w1 ⟨rfl, hb1⟩
    obtain ⟨x0, x1, x2⟩ := (hat.out.below hb1).one hjL
    rw [hU] at x1
    go_wp2
    go_ret2
    rw [hf.out]
    exact NTold.none hb1

set_option maxHeartbeats 400000 in
theorem same_any (a b : Option Addr) (n c d : Nat) (L : List Nod) (w : World) (hn : L.length = n) (hl : n ≤ 4611686018427387904) (ha : DAt w a L) (hb : DAt w b L) :
    Calls Try.prog 13 #[.slice a n c, .slice b n d] w fun e w' => e = .returned (.bool true) ∧ Below w.heap.size w w' := by
  replace hn := hid hn
  replace ha := hid ha
  replace hb := hid hb
  go_enter Try.func13, Try.ntmps13
  go_wp2_with fail
  go_loopw [5] (fun i wr => ∃ j : Nat, j ≤ n ∧ i = .int .i64 (j : Int) ∧ Below w.heap.size w wr) (fun i _ => n - (intOf i).toNat)
  case atStart => exact ⟨0, Nat.zero_le _, rfl, Below.refl _ _⟩
  case round =>
    obtain ⟨j, hj, rfl, hbw⟩ := hrel
    by_cases hlt : j < n
    · have hjL : j < L.length := by rw [hn.out]; exact hlt
      obtain ⟨b1, o1, e⟩ := ha.out.place (by omega)
      subst e
      obtain ⟨b2, o2, e⟩ := hb.out.place (by omega)
      subst e
      obtain ⟨x0, x1, x2⟩ := (ha.out.below hbw).one hjL
      obtain ⟨y0, y1, y2⟩ := (hb.out.below hbw).one hjL
      generalize nodAt L j = X at *
      obtain ⟨X0, X1, X2⟩ := X
      dsimp only at *
      go_wp2_with fail
      go_quiet (fail)
      have bd := below_drewN hbw nq
      generalize wr.drewN nq = wq at *
      go_wp2_with fail
      go_roundw
      case rel => exact ⟨j + 1, by omega, by go_num, bd⟩
      case measure => simp [intOf]; omega
    · have hje : j = n := by omega
      subst hje
      go_wp2
      go_ret
      exact ⟨rfl, hbw⟩

set_option maxHeartbeats 400000 in
theorem samei_any (a b : Option Addr) (n c d : Nat) (L : List Int) (w : World) (hn : L.length = n) (hl : n ≤ 4611686018427387904) (ha : CAt w a (L.map I)) (hb : CAt w b (L.map I)) :
    Calls Try.prog 18 #[.slice a n c, .slice b n d] w fun e w' => e = .returned (.bool true) ∧ Below w.heap.size w w' := by
  replace hn := hid hn
  replace ha := hid ha
  replace hb := hid hb
  go_enter Try.func18, Try.ntmps18
  go_wp2_with fail
  go_loopw [5] (fun i wr => ∃ j : Nat, j ≤ n ∧ i = .int .i64 (j : Int) ∧ Below w.heap.size w wr) (fun i _ => n - (intOf i).toNat)
  case atStart => exact ⟨0, Nat.zero_le _, rfl, Below.refl _ _⟩
  case round =>
    obtain ⟨j, hj, rfl, hbw⟩ := hrel
    by_cases hlt : j < n
    · have hjL : j < L.length := by rw [hn.out]; exact hlt
      have hne : L ≠ [] := by intro e; rw [e] at hjL; simp at hjL
      obtain ⟨b1, o1, e⟩ := iat_place ha.out hne
      subst e
      obtain ⟨b2, o2, e⟩ := iat_place hb.out hne
      subst e
      have x0 := iat_cell (CAt.below ha.out hbw) j hjL
      have y0 := iat_cell (CAt.below hb.out hbw) j hjL
      replace hne := hid hne
      generalize L[j] = X at *
      go_wp2_with fail
      go_quiet (fail)
      have bd := below_drewN hbw nq
      generalize wr.drewN nq = wq at *
      go_wp2_with fail
      go_roundw
      case rel => exact ⟨j + 1, by omega, by go_num, bd⟩
      case measure => simp [intOf]; omega
    · have hje : j = n := by omega
      subst hje
      go_wp2
      go_ret
      exact ⟨rfl, hbw⟩

end Go.Proofs.Ytledgaiekbpndaa
