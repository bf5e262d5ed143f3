/- Whether two of a list clash. -/
import Derived.Test.YtjfgpepecjkdnaaRb
namespace Go.Proofs.Ytjfgpepecjkdnaa
open Go.RowKit
set_option linter.unusedVariables false

def pvC (g h : Nat) (x1 x2 : ByteArray) (s1 s2 : Nat) (f1 t1 f2 t2 : Int) (da1 da2 : Option Addr) (dn1 dc1 dn2 dc2 : Nat) (B : Bool) : List Value := [.agg #[.string x2, .int .u32 (s2 : Int), .int .i64 f2, .int .i64 t2, .slice da2 dn2 dc2], .agg #[.int .u32 (s2 : Int), .int .i64 f2, .int .i64 t2], .agg #[.string x1, .int .u32 (s1 : Int), .int .i64 f1, .int .i64 t1, .slice da1 dn1 dc1], .agg #[.int .u32 (s1 : Int), .int .i64 f1, .int .i64 t1], .bool B]

def ClTo (V : List Vw) (j : Nat) : Prop := ∀ i, i < j → ∀ m, m < i → ovB (vAt V m) (vAt V i) = false
def ClAt (V : List Vw) (j m : Nat) : Prop := ∀ q, q < m → ovB (vAt V q) (vAt V j) = false

set_option maxRecDepth 100000 in
set_option maxHeartbeats 2000000 in
theorem clash_any (a : Option Addr) (k c : Nat) (M : List (Prt × List ByteArray)) (w : World) (hR : RL w a k M) (hkc : k ≤ c) :
    Calls Try.prog 15 #[.slice a k c] w fun e w' => e = .returned (.bool (clB (M.map vw))) ∧ Below w.heap.size w w' := by
  have hl := hR.le
  have hn : M.length = k := hR.len
  have hmn : (M.map (·.1)).length = k := by rw [List.length_map]; exact hn
  have hvn : (M.map vw).length = k := by rw [List.length_map]; exact hn
  replace hn := hid hn
  replace hmn := hid hmn
  replace hvn := hid hvn
  replace hR := hid hR
  go_enter Try.func15, Try.ntmps15
  go_wp2_with fail
  go_step3
  go_wp2_with fail
  go_step3
  go_wp2_with fail
  go_loopw [3, 10] (fun v i wr => ∃ j : Nat, j ≤ k ∧ v = .bool false ∧ i = .int .i64 (j : Int) ∧ Hid (ClTo (M.map vw) j) ∧ Below w.heap.size w wr) (fun _ i _ => k - (intOf i).toNat)
  case atStart => exact ⟨0, Nat.zero_le _, rfl, rfl, hid (fun i hi => by omega), Below.refl _ _⟩
  case round =>
    obtain ⟨j, hj, rfl, rfl, hok, hb⟩ := hrel
    by_cases hlt : j < k
    · have hjL : j < (M.map (·.1)).length := by rw [hmn.out]; exact hlt
      have hjM : j < M.length := by rw [hn.out]; exact hlt
      obtain ⟨b, o, e⟩ := hR.out.mat.place (by omega)
      subst e
      obtain ⟨y0, y1, y2, y3, y4⟩ := (hR.out.mat.below hb).one hjL
      have hv1 := hid (vAt_vw hjM)
      obtain ⟨s1, hs1, hs1b⟩ := hR.out.set _ (mAt_mem hjM)
      rw [mAt_fst hjM] at y0 y1 y2 y3 y4
      generalize mAt M j = MJ at *
      obtain ⟨⟨x1, sz1, f1, t1, da1, dn1, dc1⟩, T1⟩ := MJ
      dsimp only at *
      subst hs1
      obtain ⟨W1, hW1⟩ : ∃ W1, W1 = wr.alloc (.cells #[.string x1, .int .u32 (s1 : Int), .int .i64 f1, .int .i64 t1, .slice da1 dn1 dc1] 38) := ⟨_, rfl⟩
      have b1 : Below wr.heap.size wr W1 := by rw [hW1]; exact below_lit _ _
      have c10 : W1.cell? ⟨wr.heap.size, 0, none⟩ = some (.string x1) := by rw [hW1]; exact lit_cell _ _ _ _ _ rfl
      have c11 : W1.cell? ⟨wr.heap.size, 1, none⟩ = some (.int .u32 (s1 : Int)) := by rw [hW1]; exact lit_cell _ _ _ _ _ rfl
      have c12 : W1.cell? ⟨wr.heap.size, 2, none⟩ = some (.int .i64 f1) := by rw [hW1]; exact lit_cell _ _ _ _ _ rfl
      have c13 : W1.cell? ⟨wr.heap.size, 3, none⟩ = some (.int .i64 t1) := by rw [hW1]; exact lit_cell _ _ _ _ _ rfl
      have c14 : W1.cell? ⟨wr.heap.size, 4, none⟩ = some (.slice da1 dn1 dc1) := by rw [hW1]; exact lit_cell _ _ _ _ _ rfl
      have B1 := bnext hb b1
      have hjc : (j : Int) ≤ (c : Int) := by omega
      go_wp2_with fail
      rw [← hW1]
      replace hW1 := hid hW1
      generalize wr.heap.size = g at *
      go_loopw [3, 19] (fun v i w2 => ∃ m : Nat, m ≤ j ∧ v = .bool false ∧ i = .int .i64 (m : Int) ∧ Hid (ClAt (M.map vw) j m) ∧ Below W1.heap.size W1 w2) (fun _ i _ => j - (intOf i).toNat)
      case atStart => exact ⟨0, Nat.zero_le _, rfl, rfl, hid (fun i hi => by omega), Below.refl _ _⟩
      case round =>
        obtain ⟨m, hm, rfl, rfl, hokm, hb2⟩ := hrel
        by_cases hltm : m < j
        · have hmL : m < (M.map (·.1)).length := by rw [hmn.out]; omega
          have hmM : m < M.length := by rw [hn.out]; omega
          have D2 := bnext B1 hb2
          obtain ⟨y0, y1, y2, y3, y4⟩ := (hR.out.mat.below D2).one hmL
          have hv2 := hid (vAt_vw hmM)
          obtain ⟨s2, hs2, hs2b⟩ := hR.out.set _ (mAt_mem hmM)
          rw [mAt_fst hmM] at y0 y1 y2 y3 y4
          generalize mAt M m = MM at *
          obtain ⟨⟨x2, sz2, f2, t2, da2, dn2, dc2⟩, T2⟩ := MM
          dsimp only at *
          subst hs2
          obtain ⟨W2, hW2⟩ : ∃ W2, W2 = wr.alloc (.cells #[.string x2, .int .u32 (s2 : Int), .int .i64 f2, .int .i64 t2, .slice da2 dn2 dc2] 38) := ⟨_, rfl⟩
          have b2 : Below wr.heap.size wr W2 := by rw [hW2]; exact below_lit _ _
          have c20 : W2.cell? ⟨wr.heap.size, 0, none⟩ = some (.string x2) := by rw [hW2]; exact lit_cell _ _ _ _ _ rfl
          have c21 : W2.cell? ⟨wr.heap.size, 1, none⟩ = some (.int .u32 (s2 : Int)) := by rw [hW2]; exact lit_cell _ _ _ _ _ rfl
          have c22 : W2.cell? ⟨wr.heap.size, 2, none⟩ = some (.int .i64 f2) := by rw [hW2]; exact lit_cell _ _ _ _ _ rfl
          have c23 : W2.cell? ⟨wr.heap.size, 3, none⟩ = some (.int .i64 t2) := by rw [hW2]; exact lit_cell _ _ _ _ _ rfl
          have c24 : W2.cell? ⟨wr.heap.size, 4, none⟩ = some (.slice da2 dn2 dc2) := by rw [hW2]; exact lit_cell _ _ _ _ _ rfl
          have hb3 := bnext hb2 b2
          replace c10 := stay hb3 c10
          replace c11 := stay hb3 c11
          replace c12 := stay hb3 c12
          replace c13 := stay hb3 c13
          replace c14 := stay hb3 c14
          have D3 := bnext D2 b2
          go_wp2_with fail
          rw [← hW2]
          replace hW2 := hid hW2
          generalize wr.heap.size = h at *
          have kO := hid (fun w' : World => overlap_any s2 s1 f2 t2 f1 t1 hs2b hs1b w')
          generalize hOV : (decide (0 < Nd.cnt (s2 &&& s1)) && decide (max f2 f1 < min t2 t1)) = B at *
          have hov : ovB (vAt (M.map vw) m) (vAt (M.map vw) j) = B := by rw [hv2.out, hv1.out, ← hOV]; rfl
          replace hOV := hid hOV
          replace hov := hid hov
          replace D2 := hid D2
          refine wp_region_drawn (Rel := fun w w' => Below w.heap.size w w') (Pr := PrV (pvC g h x1 x2 s1 s2 f1 t1 f2 t2 da1 da2 dn1 dc1 dn2 dc2 B) [] (fun _ _ _ => True)) (by kernel_rfl) (by kernel_rfl) (drew_below _) bel_tr (PrV.mono (fun _ _ _ _ _ _ => trivial)) ?_ ?_
          · refine ⟨?_, ?_, ?_, ?_, ?_, trivial⟩
            · intro ac w hR hd hk K hK
              have e7 : ac.tmps[7]?.getD undef = (.pointer (some ⟨h, 0, none⟩) : Value) := slot (get_keep (hk 7 (no_dst (by kernel_rfl))) rfl)
              have z0 := stay hR c20
              have z1 := stay hR c21
              have z2 := stay hR c22
              have z3 := stay hR c23
              have z4 := stay hR c24
              refine yes (want_n rfl) ?_
              have hv := hid (hK (.agg #[.string x2, .int .u32 (s2 : Int), .int .i64 f2, .int .i64 t2, .slice da2 dn2 dc2]) w (PrV.is rfl rfl) (Below.refl _ _))
              go_simp
              refine kq hv.out ?_
              rfl
            · exact fun ac w hR hd hk K hK => yes (want_n rfl) (wp_callv 19 _ _ rfl _ Try.func19 rfl rfl _ (args1 ((hd 0 _ 23 rfl rfl rfl).val rfl)) (block_any ⟨x2, (s2 : Int), f2, t2, da2, dn2, dc2⟩ w) (by rintro e w' ⟨rfl, hb⟩; exact ⟨_, rfl, hK _ w' (PrV.is rfl rfl) (hb)⟩))
            · intro ac w hR hd hk K hK
              have e5 : ac.tmps[5]?.getD undef = (.pointer (some ⟨g, 0, none⟩) : Value) := slot (get_keep (hk 5 (no_dst (by kernel_rfl))) rfl)
              have z0 := stay hR c10
              have z1 := stay hR c11
              have z2 := stay hR c12
              have z3 := stay hR c13
              have z4 := stay hR c14
              refine yes (want_n rfl) ?_
              have hv := hid (hK (.agg #[.string x1, .int .u32 (s1 : Int), .int .i64 f1, .int .i64 t1, .slice da1 dn1 dc1]) w (PrV.is rfl rfl) (Below.refl _ _))
              go_simp
              refine kq hv.out ?_
              rfl
            · exact fun ac w hR hd hk K hK => yes (want_n rfl) (wp_callv 19 _ _ rfl _ Try.func19 rfl rfl _ (args1 ((hd 2 _ 25 rfl rfl rfl).val rfl)) (block_any ⟨x1, (s1 : Int), f1, t1, da1, dn1, dc1⟩ w) (by rintro e w' ⟨rfl, hb⟩; exact ⟨_, rfl, hK _ w' (PrV.is rfl rfl) (hb)⟩))
            · exact fun ac w hR hd hk K hK => yes (want_n rfl) (wp_callv 18 _ _ rfl _ Try.func18 rfl rfl _ (args2 ((hd 1 _ 24 rfl rfl rfl).val rfl) ((hd 3 _ 26 rfl rfl rfl).val rfl)) (kO.out w) (by rintro e w' ⟨rfl, hb⟩; exact ⟨_, rfl, hK _ w' (PrV.is rfl rfl) (hb)⟩))
          · intro a w8 hdf hsz hkp hval hRw
            obtain ⟨f, hf⟩ : ∃ f, f = fun d => a.tmps.getD d undef := ⟨_, rfl⟩
            have h27 : f 27 = .bool B := by rw [hf]; exact (hval 4 _ 27 rfl rfl).val rfl
            have hfa := act_filled hdf hsz hkp
            rw [← hf] at hfa
            rw [hfa]
            clear hdf hsz hkp hval hfa hf
            clear a
            simp only [fillAll, List.set_cons_zero, List.set_cons_succ, h27]
            clear h27
            cases B with
            | true =>
              have hf := hid (cl_yes (V := M.map vw) (i := j) (j := m) (by rw [hvn.out]; exact hlt) hltm hov.out)
              go_wp2
              rw [Exit.noGoto_ret]
              go_ret
              exact ⟨ret_bool hf.out.symm, bnext D3 hRw⟩
            | false =>
              have hok2 : Hid (ClAt (M.map vw) j (m + 1)) := hid fun q hq => by
                rcases Nat.lt_or_ge q m with h' | h'
                · exact hokm.out q h'
                · obtain rfl : q = m := by omega
                  exact hov.out
              go_wp2_with fail
              go_roundw
              case rel => exact ⟨m + 1, by omega, rfl, by go_num, hok2, bnext hb3 hRw⟩
              case measure => simp [intOf]; omega
        · have hje : m = j := by omega
          subst hje
          have hok2 : Hid (ClTo (M.map vw) (m + 1)) := hid fun i hi q hq => by
            rcases Nat.lt_or_ge i m with h' | h'
            · exact hok.out i h' q hq
            · obtain rfl : i = m := by omega
              exact hokm.out q hq
          go_wp2_with fail
          go_roundw
          case rel => exact ⟨m + 1, by omega, rfl, by go_num, hok2, bnext B1 hb2⟩
          case measure => simp [intOf]; omega
    · have hje : j = k := by omega
      subst hje
      have hf := hid (cl_no.2 (by rw [hvn.out]; exact hok.out))
      go_wp2
      rw [Exit.noGoto_ret]
      go_ret
      exact ⟨ret_bool hf.out.symm, hb⟩

end Go.Proofs.Ytjfgpepecjkdnaa
