/- The document's side: right lists, copies, new nodes, nodes that fail and rise; whether lists are the same. -/
import Derived.Test.YtflapjehkgefdaaGreatNdTurn
namespace Go.Proofs.YtflapjehkgefdaaGreat.Nd
open Go.RowKit

theorem node_no {L : List Nod} {j : Nat} (hj : j < L.length) (h : ¬ (1 ≤ (nodAt L j).1 ∧ (nodAt L j).1 ≤ 64 ∧ 1 ≤ (nodAt L j).2.2 ∧ (nodAt L j).2.2 ≤ 1073741824)) : rightB L = false := by
  unfold rightB
  rw [all_no hj (decide_eq_false h), Bool.and_false]

set_option maxRecDepth 100000 in
set_option maxHeartbeats 1000000 in
theorem rightr_any (a : Option Addr) (n c : Nat) (L : List Nod) (w : World) (hn : L.length = n) (hl : n ≤ 4611686018427387904) (hat : DAt w a L) :
    Calls Tryz.prog 61 #[.slice a n c] w fun e w' => e = .returned (.bool (rightB L)) ∧ Below w.heap.size w w' := by
  replace hn := hid hn
  replace hat := hid hat
  go_enter Tryz.func61, Tryz.ntmps61
  go_wp2_with fail
  go_loopw [3] (fun i wr => ∃ j : Nat, j ≤ n ∧ i = .int .i64 (j : Int) ∧ Hid (AllTo L j) ∧ wr = w) (fun i _ => n - (intOf i).toNat)
  case atStart => exact ⟨0, Nat.zero_le _, rfl, hid (AllTo.zero L), rfl⟩
  case round =>
    obtain ⟨j, hj, rfl, hok, rfl⟩ := hrel
    by_cases hlt : j < n
    · have hjL : j < L.length := by rw [hn.out]; exact hlt
      obtain ⟨b, o, e⟩ := hat.out.place (by omega)
      subst e
      obtain ⟨x0, x1, x2⟩ := hat.out.one hjL
      by_cases h1 : (nodAt L j).1 < 1
      · have hf := hid (node_no hjL (by omega))
        have d1 : decide ((nodAt L j).1 < 1) = true := by simpa using h1
        generalize nodAt L j = X at *
        obtain ⟨X0, X1, X2⟩ := X
        dsimp only at *
        go_wp2
        go_ret
        rw [hf.out]; exact ⟨rfl, Below.refl _ _⟩
      have d1 : decide ((nodAt L j).1 < 1) = false := by simpa using h1
      by_cases h2 : 64 < (nodAt L j).1
      · have hf := hid (node_no hjL (by omega))
        have d2 : decide (64 < (nodAt L j).1) = true := by simpa using h2
        generalize nodAt L j = X at *
        obtain ⟨X0, X1, X2⟩ := X
        dsimp only at *
        go_wp2
        go_ret
        rw [hf.out]; exact ⟨rfl, Below.refl _ _⟩
      have d2 : decide (64 < (nodAt L j).1) = false := by simpa using h2
      by_cases h3 : (nodAt L j).2.2 < 1
      · have hf := hid (node_no hjL (by omega))
        have d3 : decide ((nodAt L j).2.2 < 1) = true := by simpa using h3
        generalize nodAt L j = X at *
        obtain ⟨X0, X1, X2⟩ := X
        dsimp only at *
        go_wp2
        go_ret
        rw [hf.out]; exact ⟨rfl, Below.refl _ _⟩
      have d3 : decide ((nodAt L j).2.2 < 1) = false := by simpa using h3
      by_cases h4 : 1073741824 < (nodAt L j).2.2
      · have hf := hid (node_no hjL (by omega))
        have d4 : decide (1073741824 < (nodAt L j).2.2) = true := by simpa using h4
        generalize nodAt L j = X at *
        obtain ⟨X0, X1, X2⟩ := X
        dsimp only at *
        go_wp2
        go_ret
        rw [hf.out]; exact ⟨rfl, Below.refl _ _⟩
      have d4 : decide (1073741824 < (nodAt L j).2.2) = false := by simpa using h4
      have hok2 := hid (hok.out.next hjL (decide_eq_true ⟨by omega, by omega, by omega, by omega⟩))
      generalize nodAt L j = X at *
      obtain ⟨X0, X1, X2⟩ := X
      dsimp only at *
      go_wp2_with fail
      go_roundw
      case rel => exact ⟨j + 1, by omega, by go_num, hok2, trivial⟩
      case measure => simp [intOf]; omega
    · have hje : j = n := by omega
      subst hje
      have hall := AllTo.all (L := L) (by rw [hn.out]; exact hok.out)
      by_cases h1 : 1 ≤ j
      · have d1 : decide ((1 : Int) ≤ (j : Int)) = true := by simp; omega
        by_cases h2 : j ≤ 32
        · have d2 : decide ((j : Int) ≤ 32) = true := by simp; omega
          have hf := hid (show rightB L = true by rw [right_len (by rw [hn.out]; exact ⟨h1, h2⟩)]; exact hall)
          replace hall := hid hall
          go_wp2
          go_ret
          rw [hf.out]; exact ⟨rfl, Below.refl _ _⟩
        · have d2 : decide ((j : Int) ≤ 32) = false := by simp; omega
          have hf := hid (right_no (L := L) (by rw [hn.out]; omega))
          replace hall := hid hall
          go_wp2
          go_ret
          rw [hf.out]; exact ⟨rfl, Below.refl _ _⟩
      · have d1 : decide ((1 : Int) ≤ (j : Int)) = false := by simp; omega
        have hf := hid (right_no (L := L) (by rw [hn.out]; omega))
        replace hall := hid hall
        go_wp2
        go_ret
        rw [hf.out]; exact ⟨rfl, Below.refl _ _⟩

theorem copied_ofr {w w' : World} {L : List Nod} {g n cc : Nat} (h : DOwn w' w.heap.size (.slice (some ⟨g, 0, none⟩) n cc) L) (hn : L.length = n) {k : Nat} (hk : k < n) :
    g < w'.heap.size ∧ w.heap.size ≤ g ∧ (∀ i, w'.frozen? ⟨g, i, none⟩ = false) ∧ w'.cell? ⟨g, k * 3, none⟩ = some (.int .i64 (nodAt L k).1) ∧ w'.cell? ⟨g, k * 3 + 1, none⟩ = some (.bool (nodAt L k).2.1) ∧ w'.cell? ⟨g, k * 3 + 2, none⟩ = some (.int .i64 (nodAt L k).2.2) := by
  subst hn
  obtain ⟨g', c', e, hb, hgl, _, hfz⟩ := owns_spot h (by omega)
  simp only [Value.slice.injEq, Option.some.injEq, Addr.mk.injEq] at e
  obtain ⟨⟨e, _, _⟩, _, _⟩ := e
  subst e
  have h1 := h.dat.one hk
  simp only [Nat.zero_add] at h1
  exact ⟨hgl, hb, hfz, h1⟩

set_option maxRecDepth 100000 in
set_option maxHeartbeats 600000 in
theorem newr_any (a : Option Addr) (n c : Nat) (Z : List Int) (w : World) (hn : Z.length = n) (hl : n * 24 ≤ 140737488355328) (hat : CAt w a (Z.map I)) :
    Calls Tryz.prog 41 #[.slice a n c] w fun e w' => NTold (newP Z) w e w' := by
  obtain ⟨i0, hi0, hz0, hz1, hz2⟩ := info_parts info38
  replace hn := hid hn
  replace hat := hid hat
  go_enter Tryz.func41, Tryz.ntmps41
  go_wp2_with fail
  go_loopw [4, 5] (fun v i wr => ∃ j : Nat, j ≤ n ∧ i = .int .i64 (j : Int) ∧ DOwn wr w.heap.size v (mkN (Z.take j)) ∧ Below w.heap.size w wr) (fun _ i _ => n - (intOf i).toNat)
  case atStart => exact ⟨0, Nat.zero_le _, rfl, DOwn.nil _ _, Below.refl _ _⟩
  case round =>
    obtain ⟨j, hj, rfl, hv, hb⟩ := hrel
    by_cases hlt : j < n
    · have hjL : j < Z.length := by rw [hn.out]; exact hlt
      obtain ⟨b, o, e⟩ := iat_place hat.out (by intro e; rw [e] at hjL; simp at hjL)
      subst e
      have x0 := iat_cell (CAt.below hat.out hb) j hjL
      have hts := hid (mkN_take hjL)
      have htl : (mkN (Z.take j)).length = j := by rw [mkN_len, List.length_take]; omega
      generalize Z[j] = X at *
      generalize mkN (Z.take j) = T at *
      replace hv := hid hv
      replace htl := hid htl
      go_wp2_with (at_builtin; refine Hid.out ?_)
      have bl := below_lit wr (.cells #[.int .i64 X, .bool true, .int .i64 1] 104)
      have hv2 := hv.out.below bl
      unfold DOwn at hv2
      rw [htl.out] at hv2
      have B1 := bnext hb bl
      refine wpList_cat _ rfl (.tmp 12) (.tmp 18) 85 rfl w.heap.size 104 i0 _ 3 24 Tryz.underlying85 hi0 hz0 hz1 hz2 rfl (by omega) _ _ _ rfl hv2 (some ⟨wr.heap.size, 0, none⟩) 1 _ [.int .i64 X, .bool true, .int .i64 1] rfl rfl (cat_lit _ _ _ _ rfl) (three_one (X, true, 1)) (by unfold maxLen; omega) (by omega) B1.size ?_
      intro v3 w3 hr3 hg3 hv3
      go_wp2_with fail
      go_roundw
      case rel =>
        refine ⟨j + 1, by omega, by go_num, ?_, ?_⟩
        · rw [hts.out]
          unfold DOwn
          rw [List.length_append, htl.out, nc_snoc]
          exact hr3
        · exact B1.grown hg3 B1.size (fun k hk => (hv2.lt k hk).1)
      case measure => simp [intOf]; omega
    · have hje : j = n := by omega
      subst hje
      have ht : Z.take j = Z := by rw [← hn.out, List.take_length]
      rw [ht] at hv
      obtain ⟨ad, k, rfl, hlk⟩ := owns_form hv
      have hlen : (mkN Z).length = j := by rw [mkN_len]; exact hn.out
      have kR := rightr_any ad (mkN Z).length k (mkN Z) wr rfl (by omega) hv.dat
      cases hB : rightB (mkN Z)
      · have hf := hid (show newP Z = ([], 2) by unfold newP; rw [hB]; rfl)
        rw [hB] at kR
        replace hB := hid hB
        replace hv := hid hv
        generalize (mkN Z).length = M at *
        replace hlen := hid hlen
        go_wp2_with fail
        refine kR.mono ?_
        rintro e w1 ⟨rfl, hb1⟩
        have B1 := bnext hb hb1
        go_wp2
        go_ret2
        rw [hf.out]
        exact NTold.none B1
      · have hf := hid (show newP Z = (mkN Z, 0) by unfold newP; rw [hB]; rfl)
        rw [hB] at kR
        replace hB := hid hB
        replace hv := hid hv
        obtain ⟨M, hM⟩ : ∃ M, M = (mkN Z).length := ⟨_, rfl⟩
        rw [← hM] at kR hlk ⊢
        replace hM := hid hM
        replace hlen := hid hlen
        go_wp2_with fail
        refine kR.mono ?_
        rintro e w1 ⟨rfl, hb1⟩
        have B1 := bnext hb hb1
        go_wp2
        go_ret2
        rw [hf.out]
        have hv1 := hv.out.below hb1
        rw [← hM.out] at hv1
        exact NTold.of hM.out.symm hlk hv1 B1

set_option maxHeartbeats 400000 in
theorem samei_any (a b : Option Addr) (n c d : Nat) (L : List Int) (w : World) (hn : L.length = n) (hl : n ≤ 4611686018427387904) (ha : CAt w a (L.map I)) (hb : CAt w b (L.map I)) :
    Calls Tryz.prog 10 #[.slice a n c, .slice b n d] w fun e w' => e = .returned (.bool true) ∧ Below w.heap.size w w' := by
  replace hn := hid hn
  replace ha := hid ha
  replace hb := hid hb
  go_enter Tryz.func10, Tryz.ntmps10
  go_wp2_with fail
  go_loopw [5] (fun i wr => ∃ j : Nat, j ≤ n ∧ i = .int .i64 (j : Int) ∧ Below w.heap.size w wr) (fun i _ => n - (intOf i).toNat)
  case atStart => exact ⟨0, Nat.zero_le _, rfl, Below.refl _ _⟩
  case round =>
    obtain ⟨j, hj, rfl, hbw⟩ := hrel
    by_cases hlt : j < n
    · have hjL : j < L.length := by rw [hn.out]; exact hlt
      have hne : L ≠ [] := by intro e; rw [e] at hjL; simp at hjL
      obtain ⟨b1, o1, e⟩ := iat_place ha.out hne
      subst e
      obtain ⟨b2, o2, e⟩ := iat_place hb.out hne
      subst e
      have x0 := iat_cell (CAt.below ha.out hbw) j hjL
      have y0 := iat_cell (CAt.below hb.out hbw) j hjL
      replace hne := hid hne
      generalize L[j] = X at *
      go_wp2_with fail
      go_quiet (fail)
      have bd := below_drewN hbw nq
      generalize wr.drewN nq = wq at *
      go_wp2_with fail
      go_roundw
      case rel => exact ⟨j + 1, by omega, by go_num, bd⟩
      case measure => simp [intOf]; omega
    · have hje : j = n := by omega
      subst hje
      go_wp2
      go_ret
      exact ⟨rfl, hbw⟩

end Go.Proofs.YtflapjehkgefdaaGreat.Nd
