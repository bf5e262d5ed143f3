/- Sameness of specs, jobs, partitions and configs. -/
import Derived.Test.YtilncacmkfohdaaCp2
import Derived.Test.YtilncacmkfohdaaRef4
namespace Go.Proofs.Ytilncacmkfohdaa
open Go.RowKit
set_option linter.unusedVariables false

set_option maxRecDepth 100000 in
set_option maxHeartbeats 2000000 in
theorem samepart (s : Prt) (D : List ByteArray) (xa : Option Addr) (xc : Nat) (w : World) (hD : D.length = s.dn) (hl : s.dn ≤ 4611686018427387904) (h1 : TAt w xa D) (h2 : TAt w s.da D) :
    Calls Try.prog 75 #[.agg (pc5 (s.re xa xc)).toArray, .agg (pc5 s).toArray] w fun e w' => e = .returned (.bool true) ∧ Below w.heap.size w w' := by
  obtain ⟨W0, hW0⟩ : ∃ W0, W0 = ((w.alloc (.cells (pc5 (s.re xa xc)).toArray 58)).alloc (.cells (pc5 s).toArray 58)) := ⟨_, rfl⟩
  have bl0 := below_lit w (.cells (pc5 (s.re xa xc)).toArray 58)
  have bl1 := below_lit (w.alloc (.cells (pc5 (s.re xa xc)).toArray 58)) (.cells (pc5 s).toArray 58)
  have bl := bnext bl0 bl1
  have p0 := stay bl1 (lit_cell w 58 (pc5 (s.re xa xc)).toArray 0 (.string s.name) rfl)
  have q0 := lit_cell (w.alloc (.cells (pc5 (s.re xa xc)).toArray 58)) 58 (pc5 s).toArray 0 (.string s.name) rfl
  rw [size_lit] at q0
  have p1 := stay bl1 (lit_cell w 58 (pc5 (s.re xa xc)).toArray 1 (.int .u32 s.nodes) rfl)
  have q1 := lit_cell (w.alloc (.cells (pc5 (s.re xa xc)).toArray 58)) 58 (pc5 s).toArray 1 (.int .u32 s.nodes) rfl
  rw [size_lit] at q1
  have p2 := stay bl1 (lit_cell w 58 (pc5 (s.re xa xc)).toArray 2 (.int .i64 s.prio) rfl)
  have q2 := lit_cell (w.alloc (.cells (pc5 (s.re xa xc)).toArray 58)) 58 (pc5 s).toArray 2 (.int .i64 s.prio) rfl
  rw [size_lit] at q2
  have p3 := stay bl1 (lit_cell w 58 (pc5 (s.re xa xc)).toArray 3 (.int .i64 s.most) rfl)
  have q3 := lit_cell (w.alloc (.cells (pc5 (s.re xa xc)).toArray 58)) 58 (pc5 s).toArray 3 (.int .i64 s.most) rfl
  rw [size_lit] at q3
  have p4 := stay bl1 (lit_cell w 58 (pc5 (s.re xa xc)).toArray 4 (.slice xa s.dn xc) rfl)
  have q4 := lit_cell (w.alloc (.cells (pc5 (s.re xa xc)).toArray 58)) 58 (pc5 s).toArray 4 (.slice s.da s.dn s.dc) rfl
  rw [size_lit] at q4
  have kD := samet_any xa s.da s.dn xc s.dc D W0 hD hl (h1.below (by rw [hW0]; exact bl)) (h2.below (by rw [hW0]; exact bl))
  rw [← hW0] at bl
  replace hD := hid hD
  replace h1 := hid h1
  replace h2 := hid h2
  clear bl0 bl1
  go_enter Try.func75, Try.ntmps75
  go_wp2_with fail
  rw [← hW0]
  refine kD.mono ?_
  rintro e w1 ⟨rfl, hb1⟩
  have D1 := bnext bl hb1
  go_wp2
  go_ret
  exact ⟨rfl, D1⟩

def pv20 (b o k c b' o' c' i : Nat) (X : Job) (xa : Option Addr) (xc : Nat) : List Value := [.slice (some ⟨b, o, none⟩) k c, .int .i64 (i : Int), .pointer (some ⟨b, o + i * 17, none⟩), .agg (jc (X.re xa xc)).toArray, .slice (some ⟨b', o', none⟩) k c', .int .i64 (i : Int), .pointer (some ⟨b', o' + i * 17, none⟩), .agg (jc X).toArray, .bool true, .bool false]

theorem reJ_at : ∀ {A B : List (Job × List Dp)} (_ : ReJ A B) (i : Nat) (hi : i < A.length) (hj : i < B.length), (∃ x y, B[i].1 = A[i].1.re x y) ∧ B[i].2 = A[i].2
  | p :: r, q :: t, h, 0, _, _ => ⟨h.1, h.2.1⟩
  | p :: r, q :: t, h, i + 1, hi, hj => reJ_at h.2.2 i (by simpa using hi) (by simpa using hj)
  | [], _, _, i, hi, _ => by simp at hi
  | p :: r, [], h, i, _, hj => by simp at hj

def pv45 (b o k c b' o' c' i : Nat) (X : Prt) (xa : Option Addr) (xc : Nat) : List Value := [.slice (some ⟨b, o, none⟩) k c, .int .i64 (i : Int), .pointer (some ⟨b, o + i * 5, none⟩), .agg (pc5 (X.re xa xc)).toArray, .slice (some ⟨b', o', none⟩) k c', .int .i64 (i : Int), .pointer (some ⟨b', o' + i * 5, none⟩), .agg (pc5 X).toArray, .bool true, .bool false]

theorem reP_at : ∀ {A B : List (Prt × List ByteArray)} (_ : ReP A B) (i : Nat) (hi : i < A.length) (hj : i < B.length), (∃ x y, B[i].1 = A[i].1.re x y) ∧ B[i].2 = A[i].2
  | p :: r, q :: t, h, 0, _, _ => ⟨h.1, h.2.1⟩
  | p :: r, q :: t, h, i + 1, hi, hj => reP_at h.2.2 i (by simpa using hi) (by simpa using hj)
  | [], _, _, i, hi, _ => by simp at hi
  | p :: r, [], h, i, _, hj => by simp at hj

set_option maxRecDepth 100000 in
set_option maxHeartbeats 2000000 in
theorem sameP (a : Option Addr) (a' : Option Addr) (k c c' : Nat) (M M' : List (Prt × List ByteArray)) (w : World) (hn : M.length = k) (hl : k ≤ 4611686018427387904) (hre : ReP M M') (h1 : PtAt w a (M'.map (·.1))) (h2 : PtAt w a' (M.map (·.1))) (d1 : ∀ p ∈ M', TAt w p.1.da p.2) (d2 : PIn w M) :
    Calls Try.prog 52 #[.slice a k c, .slice a' k c'] w fun e w' => e = .returned (.bool true) ∧ Below w.heap.size w w' := by
  have hn' := reP_len hre
  replace hn := hid hn
  replace hn' := hid hn'
  replace hre := hid hre
  replace h1 := hid h1
  replace h2 := hid h2
  replace d1 := hid d1
  replace d2 := hid d2
  go_enter Try.func52, Try.ntmps52
  go_wp2_with fail
  go_loopw [5] (fun i wr => ∃ j : Nat, j ≤ k ∧ i = .int .i64 (j : Int) ∧ Below w.heap.size w wr) (fun i _ => k - (intOf i).toNat)
  case atStart => exact ⟨0, Nat.zero_le _, rfl, Below.refl _ _⟩
  case round =>
    obtain ⟨i, hi, rfl, hb⟩ := hrel
    by_cases hlt : i < k
    · have hiM : i < M.length := by rw [hn.out]; exact hlt
      have hiM' : i < M'.length := by rw [hn'.out]; exact hiM
      have e1 : i < (M.map (·.1)).length := by rw [List.length_map]; exact hiM
      have e2 : i < (M'.map (·.1)).length := by rw [List.length_map]; exact hiM'
      obtain ⟨b, o, e⟩ := h1.out.place (by omega)
      subst e
      obtain ⟨b', o', e⟩ := h2.out.place (by omega)
      subst e
      have r1 := (h1.out.below hb).range e2
      have r2 := (h2.out.below hb).range e1
      obtain ⟨⟨xa, xc, hx⟩, hx2⟩ := reP_at hre.out i hiM hiM'
      have g1 : prtAt (M'.map (·.1)) i = M'[i].1 := by rw [← prtAt_eq e2]; simp
      have g2 : prtAt (M.map (·.1)) i = M[i].1 := by rw [← prtAt_eq e1]; simp
      obtain ⟨u1, u2, u3⟩ := d2.out M[i] (List.getElem_mem hiM)
      have u4 := d1.out M'[i] (List.getElem_mem hiM')
      rw [g1, hx] at r1
      rw [g2] at r2
      rw [hx2, hx] at u4
      have hik : i < k := hlt
      have hiz : (0 : Int) ≤ (i : Int) := by omega
      have kS := fun wx (h : Below wr.heap.size wr wx) => samepart M[i].1 M[i].2 xa xc wx u1 (by omega) (CAt.below u4 (bnext hb h)) (u2.below (bnext hb h))
      replace hx := hid hx
      replace hx2 := hid hx2
      replace g1 := hid g1
      replace g2 := hid g2
      replace u1 := hid u1
      replace u2 := hid u2
      replace u4 := hid u4
      generalize M[i].1 = X at *
      generalize M[i].2 = Dx at *
      replace kS := hid kS
      replace r1 := hid r1
      replace r2 := hid r2
      go_wp2_with fail
      replace kS := kS.out
      replace r1 := r1.out
      replace r2 := r2.out
      refine wp_region_drawn (Rel := fun w w' => Below w.heap.size w w') (Pr := PrV (pv45 b o k c b' o' c' i X xa xc) [] (fun _ _ _ => True)) (by kernel_rfl) (by kernel_rfl) (drew_below _) bel_tr (PrV.mono (fun _ _ _ _ _ _ => trivial)) ?_ ?_
      · refine ⟨?_, ?_, ?_, ?_, ?_, ?_, ?_, ?_, ?_, ?_, trivial⟩
        · exact fun ac w hR hd hk K hK => yes (want_n rfl) (wp_mv _ rfl _ (get_keep (hk 0 (no_dst (by kernel_rfl))) rfl) (hK _ w (PrV.is rfl rfl) (Below.refl _ _)))
        · exact fun ac w hR hd hk K hK => yes (want_n rfl) (wp_mv _ rfl _ (get_keep (hk 5 (no_dst (by kernel_rfl))) rfl) (hK _ w (PrV.is rfl rfl) (Below.refl _ _)))
        · intro ac w hR hd hk K hK
          have e17 : ac.tmps[17]?.getD undef = (.slice (some ⟨b, o, none⟩) k c : Value) := slot ((hd 0 _ 17 rfl rfl rfl).val rfl)
          have e18 : ac.tmps[18]?.getD undef = (.int .i64 (i : Int) : Value) := slot ((hd 1 _ 18 rfl rfl rfl).val rfl)
          have i1 := hik
          have i2 := hiz
          refine yes (want_n rfl) ?_
          have hv := hid (hK (.pointer (some ⟨b, o + i * 5, none⟩)) w (PrV.is rfl rfl) (Below.refl _ _))
          go_simp
          refine kq hv.out ?_
          rfl
        · exact fun ac w hR hd hk K hK => yes (want_n rfl) (wp_load_mid 58 _ rfl b (o + i * 5) ((hd 2 _ 19 rfl rfl rfl).val rfl) (pc5 (X.re xa xc)) _ (range_below r1 hR) Try.underlying58 rfl (by kernel_rfl) (hK _ w (PrV.is rfl rfl) (Below.refl _ _)))
        · exact fun ac w hR hd hk K hK => yes (want_n rfl) (wp_mv _ rfl _ (get_keep (hk 1 (no_dst (by kernel_rfl))) rfl) (hK _ w (PrV.is rfl rfl) (Below.refl _ _)))
        · exact fun ac w hR hd hk K hK => yes (want_n rfl) (wp_mv _ rfl _ (get_keep (hk 5 (no_dst (by kernel_rfl))) rfl) (hK _ w (PrV.is rfl rfl) (Below.refl _ _)))
        · intro ac w hR hd hk K hK
          have e21 : ac.tmps[21]?.getD undef = (.slice (some ⟨b', o', none⟩) k c' : Value) := slot ((hd 4 _ 21 rfl rfl rfl).val rfl)
          have e22 : ac.tmps[22]?.getD undef = (.int .i64 (i : Int) : Value) := slot ((hd 5 _ 22 rfl rfl rfl).val rfl)
          have i1 := hik
          have i2 := hiz
          refine yes (want_n rfl) ?_
          have hv := hid (hK (.pointer (some ⟨b', o' + i * 5, none⟩)) w (PrV.is rfl rfl) (Below.refl _ _))
          go_simp
          refine kq hv.out ?_
          rfl
        · exact fun ac w hR hd hk K hK => yes (want_n rfl) (wp_load_mid 58 _ rfl b' (o' + i * 5) ((hd 6 _ 23 rfl rfl rfl).val rfl) (pc5 X) _ (range_below r2 hR) Try.underlying58 rfl (by kernel_rfl) (hK _ w (PrV.is rfl rfl) (Below.refl _ _)))
        · exact fun ac w hR hd hk K hK => yes (want_n rfl) (wp_callv 75 _ _ rfl _ Try.func75 rfl rfl _ (args2 ((hd 3 _ 20 rfl rfl rfl).val rfl) ((hd 7 _ 24 rfl rfl rfl).val rfl)) (kS w hR) (by rintro e w' ⟨rfl, hb⟩; exact ⟨_, rfl, hK _ w' (PrV.is rfl rfl) (hb)⟩))
        · intro ac w hR hd hk K hK
          have e25 : ac.tmps[25]?.getD undef = (.bool true : Value) := slot ((hd 8 _ 25 rfl rfl rfl).val rfl)
          refine yes (want_n rfl) ?_
          have hv := hid (hK (.bool false) w (PrV.is rfl rfl) (Below.refl _ _))
          go_simp
          refine kq hv.out ?_
          rfl
      · intro a w5 hdf hsz hkp hval hRw
        obtain ⟨f, hf⟩ : ∃ f, f = fun d => a.tmps.getD d undef := ⟨_, rfl⟩
        have h26 : f 26 = .bool false := by rw [hf]; exact (hval 9 _ 26 rfl rfl).val rfl
        have hfa := act_filled hdf hsz hkp
        rw [← hf] at hfa
        rw [hfa]
        clear hdf hsz hkp hval hfa hf
        clear a
        simp only [fillAll, List.set_cons_zero, List.set_cons_succ, h26]
        clear h26
        have B5 := bnext hb hRw
        go_wp2_with fail
        go_roundw
        case rel => exact ⟨i + 1, by omega, by go_num, B5⟩
        case measure => simp [intOf]; omega
    · have hje : i = k := by omega
      subst hje
      go_wp2
      go_ret
      exact ⟨rfl, hb⟩

end Go.Proofs.Ytilncacmkfohdaa
