/- Sameness of specs, jobs, partitions and configs. -/
import Derived.Test.YtflapjehkgefdaaGreatCp2
import Derived.Test.YtflapjehkgefdaaGreatRef4
import Derived.Test.YtflapjehkgefdaaGreatArg2
namespace Go.Proofs.YtflapjehkgefdaaGreat
open Go.RowKit
set_option linter.unusedVariables false

set_option maxRecDepth 100000 in
set_option maxHeartbeats 2000000 in
theorem samespec (s : Spc) (D : List Dp) (xa : Option Addr) (xc : Nat) (w : World) (hD : D.length = s.dn) (hl : s.dn ≤ 4611686018427387904) (h1 : DAt w xa D) (h2 : DAt w s.da D) :
    Calls Tryz.prog 52 #[.agg (sc (s.re xa xc)).toArray, .agg (sc s).toArray] w fun e w' => e = .returned (.bool true) ∧ Below w.heap.size w w' := by
  obtain ⟨W0, hW0⟩ : ∃ W0, W0 = ((w.alloc (.cells (sc (s.re xa xc)).toArray 32)).alloc (.cells (sc s).toArray 32)) := ⟨_, rfl⟩
  have bl0 := below_lit w (.cells (sc (s.re xa xc)).toArray 32)
  have bl1 := below_lit (w.alloc (.cells (sc (s.re xa xc)).toArray 32)) (.cells (sc s).toArray 32)
  have bl := bnext bl0 bl1
  have p0 := stay bl1 (lit_cell w 32 (sc (s.re xa xc)).toArray 0 (.string s.user) rfl)
  have q0 := lit_cell (w.alloc (.cells (sc (s.re xa xc)).toArray 32)) 32 (sc s).toArray 0 (.string s.user) rfl
  rw [size_lit] at q0
  have p1 := stay bl1 (lit_cell w 32 (sc (s.re xa xc)).toArray 1 (.string s.acct) rfl)
  have q1 := lit_cell (w.alloc (.cells (sc (s.re xa xc)).toArray 32)) 32 (sc s).toArray 1 (.string s.acct) rfl
  rw [size_lit] at q1
  have p2 := stay bl1 (lit_cell w 32 (sc (s.re xa xc)).toArray 2 (.string s.qos) rfl)
  have q2 := lit_cell (w.alloc (.cells (sc (s.re xa xc)).toArray 32)) 32 (sc s).toArray 2 (.string s.qos) rfl
  rw [size_lit] at q2
  have p3 := stay bl1 (lit_cell w 32 (sc (s.re xa xc)).toArray 3 (.string s.part) rfl)
  have q3 := lit_cell (w.alloc (.cells (sc (s.re xa xc)).toArray 32)) 32 (sc s).toArray 3 (.string s.part) rfl
  rw [size_lit] at q3
  have p4 := stay bl1 (lit_cell w 32 (sc (s.re xa xc)).toArray 4 (.int .i64 s.nodes) rfl)
  have q4 := lit_cell (w.alloc (.cells (sc (s.re xa xc)).toArray 32)) 32 (sc s).toArray 4 (.int .i64 s.nodes) rfl
  rw [size_lit] at q4
  have p5 := stay bl1 (lit_cell w 32 (sc (s.re xa xc)).toArray 5 (.int .i64 s.cores) rfl)
  have q5 := lit_cell (w.alloc (.cells (sc (s.re xa xc)).toArray 32)) 32 (sc s).toArray 5 (.int .i64 s.cores) rfl
  rw [size_lit] at q5
  have p6 := stay bl1 (lit_cell w 32 (sc (s.re xa xc)).toArray 6 (.int .i64 s.lim) rfl)
  have q6 := lit_cell (w.alloc (.cells (sc (s.re xa xc)).toArray 32)) 32 (sc s).toArray 6 (.int .i64 s.lim) rfl
  rw [size_lit] at q6
  have p7 := stay bl1 (lit_cell w 32 (sc (s.re xa xc)).toArray 7 (.slice xa s.dn xc) rfl)
  have q7 := lit_cell (w.alloc (.cells (sc (s.re xa xc)).toArray 32)) 32 (sc s).toArray 7 (.slice s.da s.dn s.dc) rfl
  rw [size_lit] at q7
  have kD := samedeps xa s.da s.dn xc s.dc D W0 hD hl (h1.below (by rw [hW0]; exact bl)) (h2.below (by rw [hW0]; exact bl))
  rw [← hW0] at bl
  replace hD := hid hD
  replace h1 := hid h1
  replace h2 := hid h2
  clear bl0 bl1
  go_enter Tryz.func52, Tryz.ntmps52
  go_wp2_with fail
  rw [← hW0]
  refine kD.mono ?_
  rintro e w1 ⟨rfl, hb1⟩
  have D1 := bnext bl hb1
  go_wp2
  go_ret
  exact ⟨rfl, D1⟩

set_option maxRecDepth 100000 in
set_option maxHeartbeats 2000000 in
theorem samepart (s : Prt) (D : List ByteArray) (xa : Option Addr) (xc : Nat) (w : World) (hD : D.length = s.dn) (hl : s.dn ≤ 4611686018427387904) (h1 : TAt w xa D) (h2 : TAt w s.da D) :
    Calls Tryz.prog 51 #[.agg (pc5 (s.re xa xc)).toArray, .agg (pc5 s).toArray] w fun e w' => e = .returned (.bool true) ∧ Below w.heap.size w w' := by
  obtain ⟨W0, hW0⟩ : ∃ W0, W0 = ((w.alloc (.cells (pc5 (s.re xa xc)).toArray 67)).alloc (.cells (pc5 s).toArray 67)) := ⟨_, rfl⟩
  have bl0 := below_lit w (.cells (pc5 (s.re xa xc)).toArray 67)
  have bl1 := below_lit (w.alloc (.cells (pc5 (s.re xa xc)).toArray 67)) (.cells (pc5 s).toArray 67)
  have bl := bnext bl0 bl1
  have p0 := stay bl1 (lit_cell w 67 (pc5 (s.re xa xc)).toArray 0 (.string s.name) rfl)
  have q0 := lit_cell (w.alloc (.cells (pc5 (s.re xa xc)).toArray 67)) 67 (pc5 s).toArray 0 (.string s.name) rfl
  rw [size_lit] at q0
  have p1 := stay bl1 (lit_cell w 67 (pc5 (s.re xa xc)).toArray 1 (.int .u32 s.nodes) rfl)
  have q1 := lit_cell (w.alloc (.cells (pc5 (s.re xa xc)).toArray 67)) 67 (pc5 s).toArray 1 (.int .u32 s.nodes) rfl
  rw [size_lit] at q1
  have p2 := stay bl1 (lit_cell w 67 (pc5 (s.re xa xc)).toArray 2 (.int .i64 s.prio) rfl)
  have q2 := lit_cell (w.alloc (.cells (pc5 (s.re xa xc)).toArray 67)) 67 (pc5 s).toArray 2 (.int .i64 s.prio) rfl
  rw [size_lit] at q2
  have p3 := stay bl1 (lit_cell w 67 (pc5 (s.re xa xc)).toArray 3 (.int .i64 s.most) rfl)
  have q3 := lit_cell (w.alloc (.cells (pc5 (s.re xa xc)).toArray 67)) 67 (pc5 s).toArray 3 (.int .i64 s.most) rfl
  rw [size_lit] at q3
  have p4 := stay bl1 (lit_cell w 67 (pc5 (s.re xa xc)).toArray 4 (.slice xa s.dn xc) rfl)
  have q4 := lit_cell (w.alloc (.cells (pc5 (s.re xa xc)).toArray 67)) 67 (pc5 s).toArray 4 (.slice s.da s.dn s.dc) rfl
  rw [size_lit] at q4
  have kD := samet_any xa s.da s.dn xc s.dc D W0 hD hl (h1.below (by rw [hW0]; exact bl)) (h2.below (by rw [hW0]; exact bl))
  rw [← hW0] at bl
  replace hD := hid hD
  replace h1 := hid h1
  replace h2 := hid h2
  clear bl0 bl1
  go_enter Tryz.func51, Tryz.ntmps51
  go_wp2_with fail
  rw [← hW0]
  refine kD.mono ?_
  rintro e w1 ⟨rfl, hb1⟩
  have D1 := bnext bl hb1
  go_wp2
  go_ret
  exact ⟨rfl, D1⟩

set_option maxRecDepth 100000 in
set_option maxHeartbeats 2000000 in
theorem samejob (j : Job) (D : List Dp) (xa : Option Addr) (xc : Nat) (w : World) (hD : D.length = j.s.dn) (hl : j.s.dn ≤ 4611686018427387904) (h1 : DAt w xa D) (h2 : DAt w j.s.da D) :
    Calls Tryz.prog 33 #[.agg (jc (j.re xa xc)).toArray, .agg (jc j).toArray] w fun e w' => e = .returned (.bool true) ∧ Below w.heap.size w w' := by
  obtain ⟨W0, hW0⟩ : ∃ W0, W0 = ((w.alloc (.cells (jc (j.re xa xc)).toArray 37)).alloc (.cells (jc j).toArray 37)) := ⟨_, rfl⟩
  have bl0 := below_lit w (.cells (jc (j.re xa xc)).toArray 37)
  have bl1 := below_lit (w.alloc (.cells (jc (j.re xa xc)).toArray 37)) (.cells (jc j).toArray 37)
  have bl := bnext bl0 bl1
  have p0 := stay bl1 (lit_cell w 37 (jc (j.re xa xc)).toArray 0 (.int .i64 j.id) rfl)
  have q0 := lit_cell (w.alloc (.cells (jc (j.re xa xc)).toArray 37)) 37 (jc j).toArray 0 (.int .i64 j.id) rfl
  rw [size_lit] at q0
  have p1 := stay bl1 (lit_cell w 37 (jc (j.re xa xc)).toArray 1 (.int .i64 j.arr) rfl)
  have q1 := lit_cell (w.alloc (.cells (jc (j.re xa xc)).toArray 37)) 37 (jc j).toArray 1 (.int .i64 j.arr) rfl
  rw [size_lit] at q1
  have p2 := stay bl1 (lit_cell w 37 (jc (j.re xa xc)).toArray 2 (.int .i64 j.idx) rfl)
  have q2 := lit_cell (w.alloc (.cells (jc (j.re xa xc)).toArray 37)) 37 (jc j).toArray 2 (.int .i64 j.idx) rfl
  rw [size_lit] at q2
  have p3 := stay bl1 (lit_cell w 37 (jc (j.re xa xc)).toArray 3 (.string j.s.user) rfl)
  have q3 := lit_cell (w.alloc (.cells (jc (j.re xa xc)).toArray 37)) 37 (jc j).toArray 3 (.string j.s.user) rfl
  rw [size_lit] at q3
  have p4 := stay bl1 (lit_cell w 37 (jc (j.re xa xc)).toArray 4 (.string j.s.acct) rfl)
  have q4 := lit_cell (w.alloc (.cells (jc (j.re xa xc)).toArray 37)) 37 (jc j).toArray 4 (.string j.s.acct) rfl
  rw [size_lit] at q4
  have p5 := stay bl1 (lit_cell w 37 (jc (j.re xa xc)).toArray 5 (.string j.s.qos) rfl)
  have q5 := lit_cell (w.alloc (.cells (jc (j.re xa xc)).toArray 37)) 37 (jc j).toArray 5 (.string j.s.qos) rfl
  rw [size_lit] at q5
  have p6 := stay bl1 (lit_cell w 37 (jc (j.re xa xc)).toArray 6 (.string j.s.part) rfl)
  have q6 := lit_cell (w.alloc (.cells (jc (j.re xa xc)).toArray 37)) 37 (jc j).toArray 6 (.string j.s.part) rfl
  rw [size_lit] at q6
  have p7 := stay bl1 (lit_cell w 37 (jc (j.re xa xc)).toArray 7 (.int .i64 j.s.nodes) rfl)
  have q7 := lit_cell (w.alloc (.cells (jc (j.re xa xc)).toArray 37)) 37 (jc j).toArray 7 (.int .i64 j.s.nodes) rfl
  rw [size_lit] at q7
  have p8 := stay bl1 (lit_cell w 37 (jc (j.re xa xc)).toArray 8 (.int .i64 j.s.cores) rfl)
  have q8 := lit_cell (w.alloc (.cells (jc (j.re xa xc)).toArray 37)) 37 (jc j).toArray 8 (.int .i64 j.s.cores) rfl
  rw [size_lit] at q8
  have p9 := stay bl1 (lit_cell w 37 (jc (j.re xa xc)).toArray 9 (.int .i64 j.s.lim) rfl)
  have q9 := lit_cell (w.alloc (.cells (jc (j.re xa xc)).toArray 37)) 37 (jc j).toArray 9 (.int .i64 j.s.lim) rfl
  rw [size_lit] at q9
  have p10 := stay bl1 (lit_cell w 37 (jc (j.re xa xc)).toArray 10 (.slice xa j.s.dn xc) rfl)
  have q10 := lit_cell (w.alloc (.cells (jc (j.re xa xc)).toArray 37)) 37 (jc j).toArray 10 (.slice j.s.da j.s.dn j.s.dc) rfl
  rw [size_lit] at q10
  have p11 := stay bl1 (lit_cell w 37 (jc (j.re xa xc)).toArray 11 (.int .u8 j.st) rfl)
  have q11 := lit_cell (w.alloc (.cells (jc (j.re xa xc)).toArray 37)) 37 (jc j).toArray 11 (.int .u8 j.st) rfl
  rw [size_lit] at q11
  have p12 := stay bl1 (lit_cell w 37 (jc (j.re xa xc)).toArray 12 (.int .i64 j.sub) rfl)
  have q12 := lit_cell (w.alloc (.cells (jc (j.re xa xc)).toArray 37)) 37 (jc j).toArray 12 (.int .i64 j.sub) rfl
  rw [size_lit] at q12
  have p13 := stay bl1 (lit_cell w 37 (jc (j.re xa xc)).toArray 13 (.int .i64 j.beg) rfl)
  have q13 := lit_cell (w.alloc (.cells (jc (j.re xa xc)).toArray 37)) 37 (jc j).toArray 13 (.int .i64 j.beg) rfl
  rw [size_lit] at q13
  have p14 := stay bl1 (lit_cell w 37 (jc (j.re xa xc)).toArray 14 (.int .i64 j.fin) rfl)
  have q14 := lit_cell (w.alloc (.cells (jc (j.re xa xc)).toArray 37)) 37 (jc j).toArray 14 (.int .i64 j.fin) rfl
  rw [size_lit] at q14
  have p15 := stay bl1 (lit_cell w 37 (jc (j.re xa xc)).toArray 15 (.int .u32 j.on) rfl)
  have q15 := lit_cell (w.alloc (.cells (jc (j.re xa xc)).toArray 37)) 37 (jc j).toArray 15 (.int .u32 j.on) rfl
  rw [size_lit] at q15
  have p16 := stay bl1 (lit_cell w 37 (jc (j.re xa xc)).toArray 16 (.int .i64 j.exit) rfl)
  have q16 := lit_cell (w.alloc (.cells (jc (j.re xa xc)).toArray 37)) 37 (jc j).toArray 16 (.int .i64 j.exit) rfl
  rw [size_lit] at q16
  have kD := samespec j.s D xa xc W0 hD hl (h1.below (by rw [hW0]; exact bl)) (h2.below (by rw [hW0]; exact bl))
  rw [← hW0] at bl
  replace hD := hid hD
  replace h1 := hid h1
  replace h2 := hid h2
  clear bl0 bl1
  go_enter Tryz.func33, Tryz.ntmps33
  go_wp2_with fail
  rw [← hW0]
  refine kD.mono ?_
  rintro e w1 ⟨rfl, hb1⟩
  have D1 := bnext bl hb1
  rw [← hW0] at p11 q11
  rw [← hW0] at p12 q12
  rw [← hW0] at p13 q13
  rw [← hW0] at p14 q14
  rw [← hW0] at p15 q15
  rw [← hW0] at p16 q16
  replace p11 := stay hb1 p11
  replace q11 := stay hb1 q11
  replace p12 := stay hb1 p12
  replace q12 := stay hb1 q12
  replace p13 := stay hb1 p13
  replace q13 := stay hb1 q13
  replace p14 := stay hb1 p14
  replace q14 := stay hb1 q14
  replace p15 := stay hb1 p15
  replace q15 := stay hb1 q15
  replace p16 := stay hb1 p16
  replace q16 := stay hb1 q16
  go_wp2
  go_ret
  exact ⟨rfl, D1⟩

def pv20 (b o k c b' o' c' i : Nat) (X : Job) (xa : Option Addr) (xc : Nat) : List Value := [.slice (some ⟨b, o, none⟩) k c, .int .i64 (i : Int), .pointer (some ⟨b, o + i * 17, none⟩), .agg (jc (X.re xa xc)).toArray, .slice (some ⟨b', o', none⟩) k c', .int .i64 (i : Int), .pointer (some ⟨b', o' + i * 17, none⟩), .agg (jc X).toArray, .bool true, .bool false]

theorem reJ_at : ∀ {A B : List (Job × List Dp)} (_ : ReJ A B) (i : Nat) (hi : i < A.length) (hj : i < B.length), (∃ x y, B[i].1 = A[i].1.re x y) ∧ B[i].2 = A[i].2
  | p :: r, q :: t, h, 0, _, _ => ⟨h.1, h.2.1⟩
  | p :: r, q :: t, h, i + 1, hi, hj => reJ_at h.2.2 i (by simpa using hi) (by simpa using hj)
  | [], _, _, i, hi, _ => by simp at hi
  | p :: r, [], h, i, _, hj => by simp at hj

set_option maxRecDepth 100000 in
set_option maxHeartbeats 2000000 in
theorem sameJ (a : Option Addr) (a' : Option Addr) (k c c' : Nat) (M M' : List (Job × List Dp)) (w : World) (hn : M.length = k) (hl : k ≤ 4611686018427387904) (hre : ReJ M M') (h1 : JAt w a (M'.map (·.1))) (h2 : JAt w a' (M.map (·.1))) (d1 : ∀ p ∈ M', DAt w p.1.s.da p.2) (d2 : JIn w M) :
    Calls Tryz.prog 16 #[.slice a k c, .slice a' k c'] w fun e w' => e = .returned (.bool true) ∧ Below w.heap.size w w' := by
  have hn' := reJ_len hre
  replace hn := hid hn
  replace hn' := hid hn'
  replace hre := hid hre
  replace h1 := hid h1
  replace h2 := hid h2
  replace d1 := hid d1
  replace d2 := hid d2
  go_enter Tryz.func16, Tryz.ntmps16
  go_wp2_with fail
  go_loopw [5] (fun i wr => ∃ j : Nat, j ≤ k ∧ i = .int .i64 (j : Int) ∧ Below w.heap.size w wr) (fun i _ => k - (intOf i).toNat)
  case atStart => exact ⟨0, Nat.zero_le _, rfl, Below.refl _ _⟩
  case round =>
    obtain ⟨i, hi, rfl, hb⟩ := hrel
    by_cases hlt : i < k
    · have hiM : i < M.length := by rw [hn.out]; exact hlt
      have hiM' : i < M'.length := by rw [hn'.out]; exact hiM
      have e1 : i < (M.map (·.1)).length := by rw [List.length_map]; exact hiM
      have e2 : i < (M'.map (·.1)).length := by rw [List.length_map]; exact hiM'
      obtain ⟨b, o, e⟩ := h1.out.place (by omega)
      subst e
      obtain ⟨b', o', e⟩ := h2.out.place (by omega)
      subst e
      have r1 := (h1.out.below hb).range e2
      have r2 := (h2.out.below hb).range e1
      obtain ⟨⟨xa, xc, hx⟩, hx2⟩ := reJ_at hre.out i hiM hiM'
      have g1 : jobAt (M'.map (·.1)) i = M'[i].1 := by rw [← jobAt_eq e2]; simp
      have g2 : jobAt (M.map (·.1)) i = M[i].1 := by rw [← jobAt_eq e1]; simp
      obtain ⟨u1, u2, u3⟩ := d2.out M[i] (List.getElem_mem hiM)
      have u4 := d1.out M'[i] (List.getElem_mem hiM')
      rw [g1, hx] at r1
      rw [g2] at r2
      rw [hx2, hx] at u4
      have hik : i < k := hlt
      have hiz : (0 : Int) ≤ (i : Int) := by omega
      have kS := fun wx (h : Below wr.heap.size wr wx) => samejob M[i].1 M[i].2 xa xc wx u1 (by omega) (CAt.below u4 (bnext hb h)) (u2.below (bnext hb h))
      replace hx := hid hx
      replace hx2 := hid hx2
      replace g1 := hid g1
      replace g2 := hid g2
      replace u1 := hid u1
      replace u2 := hid u2
      replace u4 := hid u4
      generalize M[i].1 = X at *
      generalize M[i].2 = Dx at *
      replace kS := hid kS
      replace r1 := hid r1
      replace r2 := hid r2
      go_wp2_with fail
      replace kS := kS.out
      replace r1 := r1.out
      replace r2 := r2.out
      refine wp_region_drawn (Rel := fun w w' => Below w.heap.size w w') (Pr := PrV (pv20 b o k c b' o' c' i X xa xc) [] (fun _ _ _ => True)) (by kernel_rfl) (by kernel_rfl) (drew_below _) bel_tr (PrV.mono (fun _ _ _ _ _ _ => trivial)) ?_ ?_
      · refine ⟨?_, ?_, ?_, ?_, ?_, ?_, ?_, ?_, ?_, ?_, trivial⟩
        · exact fun ac w hR hd hk K hK => yes (want_n rfl) (wp_mv _ rfl _ (get_keep (hk 0 (no_dst (by kernel_rfl))) rfl) (hK _ w (PrV.is rfl rfl) (Below.refl _ _)))
        · exact fun ac w hR hd hk K hK => yes (want_n rfl) (wp_mv _ rfl _ (get_keep (hk 5 (no_dst (by kernel_rfl))) rfl) (hK _ w (PrV.is rfl rfl) (Below.refl _ _)))
        · intro ac w hR hd hk K hK
          have e17 : ac.tmps[17]?.getD undef = (.slice (some ⟨b, o, none⟩) k c : Value) := slot ((hd 0 _ 17 rfl rfl rfl).val rfl)
          have e18 : ac.tmps[18]?.getD undef = (.int .i64 (i : Int) : Value) := slot ((hd 1 _ 18 rfl rfl rfl).val rfl)
          have i1 := hik
          have i2 := hiz
          refine yes (want_n rfl) ?_
          have hv := hid (hK (.pointer (some ⟨b, o + i * 17, none⟩)) w (PrV.is rfl rfl) (Below.refl _ _))
          go_simp
          refine kq hv.out ?_
          rfl
        · exact fun ac w hR hd hk K hK => yes (want_n rfl) (wp_load_mid 37 _ rfl b (o + i * 17) ((hd 2 _ 19 rfl rfl rfl).val rfl) (jc (X.re xa xc)) _ (range_below r1 hR) Tryz.underlying37 rfl (by kernel_rfl) (hK _ w (PrV.is rfl rfl) (Below.refl _ _)))
        · exact fun ac w hR hd hk K hK => yes (want_n rfl) (wp_mv _ rfl _ (get_keep (hk 1 (no_dst (by kernel_rfl))) rfl) (hK _ w (PrV.is rfl rfl) (Below.refl _ _)))
        · exact fun ac w hR hd hk K hK => yes (want_n rfl) (wp_mv _ rfl _ (get_keep (hk 5 (no_dst (by kernel_rfl))) rfl) (hK _ w (PrV.is rfl rfl) (Below.refl _ _)))
        · intro ac w hR hd hk K hK
          have e21 : ac.tmps[21]?.getD undef = (.slice (some ⟨b', o', none⟩) k c' : Value) := slot ((hd 4 _ 21 rfl rfl rfl).val rfl)
          have e22 : ac.tmps[22]?.getD undef = (.int .i64 (i : Int) : Value) := slot ((hd 5 _ 22 rfl rfl rfl).val rfl)
          have i1 := hik
          have i2 := hiz
          refine yes (want_n rfl) ?_
          have hv := hid (hK (.pointer (some ⟨b', o' + i * 17, none⟩)) w (PrV.is rfl rfl) (Below.refl _ _))
          go_simp
          refine kq hv.out ?_
          rfl
        · exact fun ac w hR hd hk K hK => yes (want_n rfl) (wp_load_mid 37 _ rfl b' (o' + i * 17) ((hd 6 _ 23 rfl rfl rfl).val rfl) (jc X) _ (range_below r2 hR) Tryz.underlying37 rfl (by kernel_rfl) (hK _ w (PrV.is rfl rfl) (Below.refl _ _)))
        · exact fun ac w hR hd hk K hK => yes (want_n rfl) (wp_callv 33 _ _ rfl _ Tryz.func33 rfl rfl _ (args2 ((hd 3 _ 20 rfl rfl rfl).val rfl) ((hd 7 _ 24 rfl rfl rfl).val rfl)) (kS w hR) (by rintro e w' ⟨rfl, hb⟩; exact ⟨_, rfl, hK _ w' (PrV.is rfl rfl) (hb)⟩))
        · intro ac w hR hd hk K hK
          have e25 : ac.tmps[25]?.getD undef = (.bool true : Value) := slot ((hd 8 _ 25 rfl rfl rfl).val rfl)
          refine yes (want_n rfl) ?_
          have hv := hid (hK (.bool false) w (PrV.is rfl rfl) (Below.refl _ _))
          go_simp
          refine kq hv.out ?_
          rfl
      · intro a w5 hdf hsz hkp hval hRw
        obtain ⟨f, hf⟩ : ∃ f, f = fun d => a.tmps.getD d undef := ⟨_, rfl⟩
        have h26 : f 26 = .bool false := by rw [hf]; exact (hval 9 _ 26 rfl rfl).val rfl
        have hfa := act_filled hdf hsz hkp
        rw [← hf] at hfa
        rw [hfa]
        clear hdf hsz hkp hval hfa hf
        clear a
        simp only [fillAll, List.set_cons_zero, List.set_cons_succ, h26]
        clear h26
        have B5 := bnext hb hRw
        go_wp2_with fail
        go_roundw
        case rel => exact ⟨i + 1, by omega, by go_num, B5⟩
        case measure => simp [intOf]; omega
    · have hje : i = k := by omega
      subst hje
      go_wp2
      go_ret
      exact ⟨rfl, hb⟩

def pv45 (b o k c b' o' c' i : Nat) (X : Prt) (xa : Option Addr) (xc : Nat) : List Value := [.slice (some ⟨b, o, none⟩) k c, .int .i64 (i : Int), .pointer (some ⟨b, o + i * 5, none⟩), .agg (pc5 (X.re xa xc)).toArray, .slice (some ⟨b', o', none⟩) k c', .int .i64 (i : Int), .pointer (some ⟨b', o' + i * 5, none⟩), .agg (pc5 X).toArray, .bool true, .bool false]

theorem reP_at : ∀ {A B : List (Prt × List ByteArray)} (_ : ReP A B) (i : Nat) (hi : i < A.length) (hj : i < B.length), (∃ x y, B[i].1 = A[i].1.re x y) ∧ B[i].2 = A[i].2
  | p :: r, q :: t, h, 0, _, _ => ⟨h.1, h.2.1⟩
  | p :: r, q :: t, h, i + 1, hi, hj => reP_at h.2.2 i (by simpa using hi) (by simpa using hj)
  | [], _, _, i, hi, _ => by simp at hi
  | p :: r, [], h, i, _, hj => by simp at hj

set_option maxRecDepth 100000 in
set_option maxHeartbeats 2000000 in
theorem sameP (a : Option Addr) (a' : Option Addr) (k c c' : Nat) (M M' : List (Prt × List ByteArray)) (w : World) (hn : M.length = k) (hl : k ≤ 4611686018427387904) (hre : ReP M M') (h1 : PtAt w a (M'.map (·.1))) (h2 : PtAt w a' (M.map (·.1))) (d1 : ∀ p ∈ M', TAt w p.1.da p.2) (d2 : PIn w M) :
    Calls Tryz.prog 30 #[.slice a k c, .slice a' k c'] w fun e w' => e = .returned (.bool true) ∧ Below w.heap.size w w' := by
  have hn' := reP_len hre
  replace hn := hid hn
  replace hn' := hid hn'
  replace hre := hid hre
  replace h1 := hid h1
  replace h2 := hid h2
  replace d1 := hid d1
  replace d2 := hid d2
  go_enter Tryz.func30, Tryz.ntmps30
  go_wp2_with fail
  go_loopw [5] (fun i wr => ∃ j : Nat, j ≤ k ∧ i = .int .i64 (j : Int) ∧ Below w.heap.size w wr) (fun i _ => k - (intOf i).toNat)
  case atStart => exact ⟨0, Nat.zero_le _, rfl, Below.refl _ _⟩
  case round =>
    obtain ⟨i, hi, rfl, hb⟩ := hrel
    by_cases hlt : i < k
    · have hiM : i < M.length := by rw [hn.out]; exact hlt
      have hiM' : i < M'.length := by rw [hn'.out]; exact hiM
      have e1 : i < (M.map (·.1)).length := by rw [List.length_map]; exact hiM
      have e2 : i < (M'.map (·.1)).length := by rw [List.length_map]; exact hiM'
      obtain ⟨b, o, e⟩ := h1.out.place (by omega)
      subst e
      obtain ⟨b', o', e⟩ := h2.out.place (by omega)
      subst e
      have r1 := (h1.out.below hb).range e2
      have r2 := (h2.out.below hb).range e1
      obtain ⟨⟨xa, xc, hx⟩, hx2⟩ := reP_at hre.out i hiM hiM'
      have g1 : prtAt (M'.map (·.1)) i = M'[i].1 := by rw [← prtAt_eq e2]; simp
      have g2 : prtAt (M.map (·.1)) i = M[i].1 := by rw [← prtAt_eq e1]; simp
      obtain ⟨u1, u2, u3⟩ := d2.out M[i] (List.getElem_mem hiM)
      have u4 := d1.out M'[i] (List.getElem_mem hiM')
      rw [g1, hx] at r1
      rw [g2] at r2
      rw [hx2, hx] at u4
      have hik : i < k := hlt
      have hiz : (0 : Int) ≤ (i : Int) := by omega
      have kS := fun wx (h : Below wr.heap.size wr wx) => samepart M[i].1 M[i].2 xa xc wx u1 (by omega) (CAt.below u4 (bnext hb h)) (u2.below (bnext hb h))
      replace hx := hid hx
      replace hx2 := hid hx2
      replace g1 := hid g1
      replace g2 := hid g2
      replace u1 := hid u1
      replace u2 := hid u2
      replace u4 := hid u4
      generalize M[i].1 = X at *
      generalize M[i].2 = Dx at *
      replace kS := hid kS
      replace r1 := hid r1
      replace r2 := hid r2
      go_wp2_with fail
      replace kS := kS.out
      replace r1 := r1.out
      replace r2 := r2.out
      refine wp_region_drawn (Rel := fun w w' => Below w.heap.size w w') (Pr := PrV (pv45 b o k c b' o' c' i X xa xc) [] (fun _ _ _ => True)) (by kernel_rfl) (by kernel_rfl) (drew_below _) bel_tr (PrV.mono (fun _ _ _ _ _ _ => trivial)) ?_ ?_
      · refine ⟨?_, ?_, ?_, ?_, ?_, ?_, ?_, ?_, ?_, ?_, trivial⟩
        · exact fun ac w hR hd hk K hK => yes (want_n rfl) (wp_mv _ rfl _ (get_keep (hk 0 (no_dst (by kernel_rfl))) rfl) (hK _ w (PrV.is rfl rfl) (Below.refl _ _)))
        · exact fun ac w hR hd hk K hK => yes (want_n rfl) (wp_mv _ rfl _ (get_keep (hk 5 (no_dst (by kernel_rfl))) rfl) (hK _ w (PrV.is rfl rfl) (Below.refl _ _)))
        · intro ac w hR hd hk K hK
          have e17 : ac.tmps[17]?.getD undef = (.slice (some ⟨b, o, none⟩) k c : Value) := slot ((hd 0 _ 17 rfl rfl rfl).val rfl)
          have e18 : ac.tmps[18]?.getD undef = (.int .i64 (i : Int) : Value) := slot ((hd 1 _ 18 rfl rfl rfl).val rfl)
          have i1 := hik
          have i2 := hiz
          refine yes (want_n rfl) ?_
          have hv := hid (hK (.pointer (some ⟨b, o + i * 5, none⟩)) w (PrV.is rfl rfl) (Below.refl _ _))
          go_simp
          refine kq hv.out ?_
          rfl
        · exact fun ac w hR hd hk K hK => yes (want_n rfl) (wp_load_mid 67 _ rfl b (o + i * 5) ((hd 2 _ 19 rfl rfl rfl).val rfl) (pc5 (X.re xa xc)) _ (range_below r1 hR) Tryz.underlying67 rfl (by kernel_rfl) (hK _ w (PrV.is rfl rfl) (Below.refl _ _)))
        · exact fun ac w hR hd hk K hK => yes (want_n rfl) (wp_mv _ rfl _ (get_keep (hk 1 (no_dst (by kernel_rfl))) rfl) (hK _ w (PrV.is rfl rfl) (Below.refl _ _)))
        · exact fun ac w hR hd hk K hK => yes (want_n rfl) (wp_mv _ rfl _ (get_keep (hk 5 (no_dst (by kernel_rfl))) rfl) (hK _ w (PrV.is rfl rfl) (Below.refl _ _)))
        · intro ac w hR hd hk K hK
          have e21 : ac.tmps[21]?.getD undef = (.slice (some ⟨b', o', none⟩) k c' : Value) := slot ((hd 4 _ 21 rfl rfl rfl).val rfl)
          have e22 : ac.tmps[22]?.getD undef = (.int .i64 (i : Int) : Value) := slot ((hd 5 _ 22 rfl rfl rfl).val rfl)
          have i1 := hik
          have i2 := hiz
          refine yes (want_n rfl) ?_
          have hv := hid (hK (.pointer (some ⟨b', o' + i * 5, none⟩)) w (PrV.is rfl rfl) (Below.refl _ _))
          go_simp
          refine kq hv.out ?_
          rfl
        · exact fun ac w hR hd hk K hK => yes (want_n rfl) (wp_load_mid 67 _ rfl b' (o' + i * 5) ((hd 6 _ 23 rfl rfl rfl).val rfl) (pc5 X) _ (range_below r2 hR) Tryz.underlying67 rfl (by kernel_rfl) (hK _ w (PrV.is rfl rfl) (Below.refl _ _)))
        · exact fun ac w hR hd hk K hK => yes (want_n rfl) (wp_callv 51 _ _ rfl _ Tryz.func51 rfl rfl _ (args2 ((hd 3 _ 20 rfl rfl rfl).val rfl) ((hd 7 _ 24 rfl rfl rfl).val rfl)) (kS w hR) (by rintro e w' ⟨rfl, hb⟩; exact ⟨_, rfl, hK _ w' (PrV.is rfl rfl) (hb)⟩))
        · intro ac w hR hd hk K hK
          have e25 : ac.tmps[25]?.getD undef = (.bool true : Value) := slot ((hd 8 _ 25 rfl rfl rfl).val rfl)
          refine yes (want_n rfl) ?_
          have hv := hid (hK (.bool false) w (PrV.is rfl rfl) (Below.refl _ _))
          go_simp
          refine kq hv.out ?_
          rfl
      · intro a w5 hdf hsz hkp hval hRw
        obtain ⟨f, hf⟩ : ∃ f, f = fun d => a.tmps.getD d undef := ⟨_, rfl⟩
        have h26 : f 26 = .bool false := by rw [hf]; exact (hval 9 _ 26 rfl rfl).val rfl
        have hfa := act_filled hdf hsz hkp
        rw [← hf] at hfa
        rw [hfa]
        clear hdf hsz hkp hval hfa hf
        clear a
        simp only [fillAll, List.set_cons_zero, List.set_cons_succ, h26]
        clear h26
        have B5 := bnext hb hRw
        go_wp2_with fail
        go_roundw
        case rel => exact ⟨i + 1, by omega, by go_num, B5⟩
        case measure => simp [intOf]; omega
    · have hje : i = k := by omega
      subst hje
      go_wp2
      go_ret
      exact ⟨rfl, hb⟩

end Go.Proofs.YtflapjehkgefdaaGreat

namespace Go.Proofs.YtflapjehkgefdaaGreat
open Go.RowKit
set_option linter.unusedVariables false

/-- What the copies are. -/
def Cf2 (w : World) (ca pa aa qa : Option Addr) (az qc : Nat) (ak qk : Nat) (M' : List (Prt × List ByteArray)) (I : List Int) (M : List (Prt × List ByteArray)) (A : List Acc) (Q : List Qu) : Prop :=
  IAt w ca I ∧ PtAt w pa (M'.map (·.1)) ∧ ReP M M' ∧ (∀ p ∈ M', TAt w p.1.da p.2) ∧ AAt w aa A ∧ ak ≤ az ∧ QAt w qa Q ∧ qk ≤ qc
theorem Cf2.below {w w' : World} {ca pa aa qa : Option Addr} {az qc ak qk : Nat} {M' : List (Prt × List ByteArray)} {I : List Int} {M : List (Prt × List ByteArray)} {A : List Acc} {Q : List Qu} (h : Cf2 w ca pa aa qa az qc ak qk M' I M A Q) (hb : Below w.heap.size w w') : Cf2 w' ca pa aa qa az qc ak qk M' I M A Q := by
  obtain ⟨h1, h2, h3, h4, h5, h6, h7, h8⟩ := h
  exact ⟨h1.below hb, h2.below hb, h3, fun p hp => (h4 p hp).below hb, h5.below hb, h6, h7.below hb, h8⟩

theorem PO.low {w : World} {base base' : Nat} {v : Value} {M : List (Prt × List ByteArray)} (h : PO w base v M) (hb : base' ≤ base) : PO w base' v M := ⟨owns_low h.own hb, fun p hp => owns_low (h.dep p hp) hb, h.off⟩
theorem own_kp {S : Nat → Prop} {w w' : World} {base : Nat} {e : TypeId} {size : Nat} {v : Value} {n : Nat} {xs : List Value} (h : w.ownsRow base e size v n xs) (hk : Kp S w w') (hS : ∀ k, S k → k < base) : w'.ownsRow base e size v n xs :=
  owns_kp h hk (fun k hk2 hs => by have h1 := (World.ownsRow.lt h k hk2).1; have h2 := hS k hs; omega)
/-- The copies, each of the call's own. -/
def Cf3 (w : World) (B : Nat) (ca pa aa qa : Option Addr) (cc pc az qc : Nat) (cn pn ak qk : Nat) (M' : List (Prt × List ByteArray)) (I : List Int) (M : List (Prt × List ByteArray)) (A : List Acc) (Q : List Qu) : Prop :=
  IOwn w B (.slice ca cn cc) I ∧ PO w B (.slice pa pn pc) M' ∧ ReP M M' ∧ AOwn w B (.slice aa ak az) A ∧ ak ≤ az ∧ QOwn w B (.slice qa qk qc) Q ∧ qk ≤ qc
theorem Cf3.kp {S : Nat → Prop} {w w' : World} {B : Nat} {ca pa aa qa : Option Addr} {cc pc az qc cn pn ak qk : Nat} {M' : List (Prt × List ByteArray)} {I : List Int} {M : List (Prt × List ByteArray)} {A : List Acc} {Q : List Qu} (h : Cf3 w B ca pa aa qa cc pc az qc cn pn ak qk M' I M A Q) (hk : Kp S w w') (hS : ∀ k, S k → k < B) : Cf2 w' ca pa aa qa az qc ak qk M' I M A Q := by
  obtain ⟨h1, h2, h3, h4, h5, h6, h7⟩ := h
  exact ⟨IOwn.iat (own_kp h1 hk hS), owns_cat (own_kp h2.own hk hS), h3, fun p hp => TOwn.tat (own_kp (h2.dep p hp) hk hS), AOwn.dat (own_kp h4 hk hS), h5, QOwn.qat (own_kp h6 hk hS), h7⟩

def Rc (B cn pn ak qk : Nat) (pol : Int) (I : List Int) (M : List (Prt × List ByteArray)) (A : List Acc) (Q : List Qu) (q : Nat) (v : Value) (w : World) : Prop :=
  match q with
  | 2 => ∃ ra rc, v = .slice ra cn rc ∧ IOwn w B (.slice ra cn rc) I
  | 5 => ∃ ra rc M', v = .slice ra pn rc ∧ PO w B (.slice ra pn rc) M' ∧ ReP M M'
  | 8 => ∃ ra rc, v = .slice ra ak rc ∧ AOwn w B (.slice ra ak rc) A ∧ ak ≤ rc
  | 11 => ∃ ra rc, v = .slice ra qk rc ∧ QOwn w B (.slice ra qk rc) Q ∧ qk ≤ rc
  | _ => ∃ ra rb re rg rc rd rf rh M', v = .agg #[.slice ra cn rc, .slice rb pn rd, .slice re ak rf, .slice rg qk rh, .int .u8 pol] ∧ Cf3 w B ra rb re rg rc rd rf rh cn pn ak qk M' I M A Q

theorem Rc.mono (B cn pn ak qk : Nat) (pol : Int) (I : List Int) (M : List (Prt × List ByteArray)) (A : List Acc) (Q : List Qu) (q : Nat) (v : Value) (w w' : World) (h : Rc B cn pn ak qk pol I M A Q q v w) (hb : Below w.heap.size w w') : Rc B cn pn ak qk pol I M A Q q v w' := by
  unfold Rc at *
  split at h
  · obtain ⟨ra, rc, e, h1⟩ := h; exact ⟨ra, rc, e, owns_below h1 hb⟩
  · obtain ⟨ra, rc, M', e, h1, h2⟩ := h; exact ⟨ra, rc, M', e, h1.below hb, h2⟩
  · obtain ⟨ra, rc, e, h1, h2⟩ := h; exact ⟨ra, rc, e, owns_below h1 hb, h2⟩
  · obtain ⟨ra, rc, e, h1, h2⟩ := h; exact ⟨ra, rc, e, owns_below h1 hb, h2⟩
  · obtain ⟨ra, rb, re, rg, rc, rd, rf, rh, M', e, h1, h2, h3, h4, h5, h6, h7⟩ := h
    exact ⟨ra, rb, re, rg, rc, rd, rf, rh, M', e, owns_below h1 hb, h2.below hb, h3, owns_below h4 hb, h5, owns_below h6 hb, h7⟩

def pv9 (ca pa aa qa : Option Addr) (cn cc pn pc ak az qk qc : Nat) (pol : Int) (g1 : Nat) : List Value := [.pointer (some ⟨g1, 0, none⟩), .slice ca cn cc, undef, .pointer (some ⟨g1, 1, none⟩), .slice pa pn pc, undef, .pointer (some ⟨g1, 2, none⟩), .slice aa ak az, undef, .pointer (some ⟨g1, 3, none⟩), .slice qa qk qc, undef, .pointer (some ⟨g1, 4, none⟩), .int .u8 pol, undef]

theorem cc_all (ca pa aa qa : Option Addr) (cn cc pn pc ak az qk qc : Nat) (pol : Int) : (#[.slice ca cn cc, .slice pa pn pc, .slice aa ak az, .slice qa qk qc, .int .u8 pol] : Array Value).all (·.oneCell') = true := by simp [Value.oneCell']

set_option maxRecDepth 100000 in
set_option maxHeartbeats 2000000 in
theorem copycfg (ca pa aa qa : Option Addr) (cn cc pn pc ak az qk qc : Nat) (pol : Int) (I : List Int) (M : List (Prt × List ByteArray)) (A : List Acc) (Q : List Qu) (w : World) (hin : CfgIn w ca pa aa qa cn cc pn pc ak az qk qc I M A Q) (hak : ak ≤ 1048576) :
    Calls Tryz.prog 6 #[.agg #[.slice ca cn cc, .slice pa pn pc, .slice aa ak az, .slice qa qk qc, .int .u8 pol]] w fun e w' => ∃ ca2 pa2 aa2 qa2 cc2 pc2 az2 qc2 M', e = .returned (.agg #[.slice ca2 cn cc2, .slice pa2 pn pc2, .slice aa2 ak az2, .slice qa2 qk qc2, .int .u8 pol]) ∧ Cf2 w' ca2 pa2 aa2 qa2 az2 qc2 ak qk M' I M A Q ∧ Below w.heap.size w w' := by
  obtain ⟨W0, hW0⟩ : ∃ W0, W0 = (w.alloc (.cells #[.slice ca cn cc, .slice pa pn pc, .slice aa ak az, .slice qa qk qc, .int .u8 pol] 28)).alloc (.cells #[.slice none 0 0, .slice none 0 0, .slice none 0 0, .slice none 0 0, .int .u8 0] 28) := ⟨_, rfl⟩
  have bl0 := below_lit w (.cells #[.slice ca cn cc, .slice pa pn pc, .slice aa ak az, .slice qa qk qc, .int .u8 pol] 28)
  have bl1 := below_lit (w.alloc (.cells #[.slice ca cn cc, .slice pa pn pc, .slice aa ak az, .slice qa qk qc, .int .u8 pol] 28)) (.cells #[.slice none 0 0, .slice none 0 0, .slice none 0 0, .slice none 0 0, .int .u8 0] 28)
  have bl := bnext bl0 bl1
  have cl := range_below (lit_range w 28 [.slice ca cn cc, .slice pa pn pc, .slice aa ak az, .slice qa qk qc, .int .u8 pol]) bl1
  have y0 := cl 0 _ rfl
  have y1 := cl 1 _ rfl
  have y2 := cl 2 _ rfl
  have y3 := cl 3 _ rfl
  have y4 := cl 4 _ rfl
  simp only [Nat.zero_add] at y0 y1 y2 y3 y4
  have r1 : W0.heap[w.heap.size + 1]? = some (.cells #[.slice none 0 0, .slice none 0 0, .slice none 0 0, .slice none 0 0, .int .u8 0] 28 (0, 0)) := by
    have := heap_alloc_new (w.alloc (.cells #[.slice ca cn cc, .slice pa pn pc, .slice aa ak az, .slice qa qk qc, .int .u8 pol] 28)) (.cells #[.slice none 0 0, .slice none 0 0, .slice none 0 0, .slice none 0 0, .int .u8 0] 28)
    rw [size_lit] at this
    rw [hW0]; exact this
  have hsz : W0.heap.size = w.heap.size + 1 + 1 := by rw [hW0, size_lit, size_lit]
  rw [← hW0] at bl y0 y1 y2 y3 y4
  have kI := fun wx (hb : Below W0.heap.size W0 wx) => copyints ca cn cc I wx hin.il (by have := hin.ib; omega) (hin.iat.below (bnext bl hb))
  have kP := fun wx (hb : Below W0.heap.size W0 wx) => copyP pa pn pc M wx hin.ml (by have := hin.mb; omega) (hin.mat.below (bnext bl hb)) (hin.min.below (bnext bl hb))
  have kA0 := fun wx (hb : Below W0.heap.size W0 wx) => copy_any aa ak az A wx hin.al hak (hin.aat.below (bnext bl hb))
  have kA : ∀ wx, Below W0.heap.size W0 wx → Calls Tryz.prog 21 #[.slice aa ak az] wx fun e w' => ∃ ra rc, e = .returned (.slice ra ak rc) ∧ ak ≤ rc ∧ AOwn w' wx.heap.size (.slice ra ak rc) A ∧ Below wx.heap.size wx w' := fun wx hb => by
    have := kA0 wx hb
    unfold ATold1 at this
    rw [hin.al] at this
    exact this
  have kQ := fun wx (hb : Below W0.heap.size W0 wx) => copyquals qa qk qc Q wx hin.ql (by have := hin.qb; omega) (hin.qat.below (bnext bl hb))
  clear kA0 cl bl0 bl1
  replace hin := hid hin
  replace kI := hid kI
  replace kP := hid kP
  replace kA := hid kA
  replace kQ := hid kQ
  replace y0 := hid y0
  replace y1 := hid y1
  replace y2 := hid y2
  replace y3 := hid y3
  replace y4 := hid y4
  replace r1 := hid r1
  go_enter Tryz.func6, Tryz.ntmps6
  go_wp2_with fail
  rw [← hW0]
  replace hW0 := hid hW0
  replace kI := kI.out
  replace kP := kP.out
  replace kA := kA.out
  replace kQ := kQ.out
  replace y0 := y0.out
  replace y1 := y1.out
  replace y2 := y2.out
  replace y3 := y3.out
  replace y4 := y4.out
  generalize hg1 : w.heap.size = g1 at y0 y1 y2 y3 y4 r1 ⊢
  refine Fr.wp_region_front 15 (Rel := fun w w' => Below w.heap.size w w') (Pr := PrV (pv9 ca pa aa qa cn cc pn pc ak az qk qc pol g1) [2, 5, 8, 11, 14] (Rc W0.heap.size cn pn ak qk pol I M A Q)) (by kernel_rfl) (by kernel_rfl) (drew_below _) bel_tr (PrV.mono (Rc.mono W0.heap.size cn pn ak qk pol I M A Q)) ?_ (by kernel_rfl) ?_
  · refine ⟨?_, ?_, ?_, ?_, ?_, ?_, ?_, ?_, ?_, ?_, ?_, ?_, ?_, ?_, ?_, trivial⟩
    · intro ac w hR hd hk K hK
      have e1 : ac.tmps[1]?.getD undef = (.pointer (some ⟨g1, 0, none⟩) : Value) := slot (get_keep (hk 1 (no_dst (by kernel_rfl))) rfl)
      refine yes (want_n rfl) ?_
      have hv := hid (hK (.pointer (some ⟨g1, 0, none⟩)) w (PrV.is rfl rfl) (Below.refl _ _))
      go_simp
      refine kq hv.out ?_
      rfl
    · intro ac w hR hd hk K hK
      have e3 : ac.tmps[3]?.getD undef = (.pointer (some ⟨g1, 0, none⟩) : Value) := slot ((hd 0 _ 3 rfl rfl rfl).val rfl)
      have x0 := stay hR y0
      refine yes (want_n rfl) ?_
      have hv := hid (hK (.slice ca cn cc) w (PrV.is rfl rfl) (Below.refl _ _))
      go_simp
      refine kq hv.out ?_
      rfl
    · intro ac w hR hd hk K hK
      refine yes (want_n rfl) ?_
      refine wp_callv 19 _ _ rfl _ Tryz.func19 rfl rfl _ (args1 ((hd 1 _ 4 rfl rfl rfl).val rfl)) (kI w hR) ?_
      rintro e w' ⟨ra, rc, rfl, hle, ho, hb⟩
      exact ⟨_, rfl, hK _ w' (PrV.by rfl ⟨ra, rc, rfl, owns_low ho hR.size⟩) hb⟩
    · intro ac w hR hd hk K hK
      have e1 : ac.tmps[1]?.getD undef = (.pointer (some ⟨g1, 0, none⟩) : Value) := slot (get_keep (hk 1 (no_dst (by kernel_rfl))) rfl)
      refine yes (want_n rfl) ?_
      have hv := hid (hK (.pointer (some ⟨g1, 1, none⟩)) w (PrV.is rfl rfl) (Below.refl _ _))
      go_simp
      refine kq hv.out ?_
      rfl
    · intro ac w hR hd hk K hK
      have e6 : ac.tmps[6]?.getD undef = (.pointer (some ⟨g1, 1, none⟩) : Value) := slot ((hd 3 _ 6 rfl rfl rfl).val rfl)
      have x0 := stay hR y1
      refine yes (want_n rfl) ?_
      have hv := hid (hK (.slice pa pn pc) w (PrV.is rfl rfl) (Below.refl _ _))
      go_simp
      refine kq hv.out ?_
      rfl
    · intro ac w hR hd hk K hK
      refine yes (want_n rfl) ?_
      refine wp_callv 20 _ _ rfl _ Tryz.func20 rfl rfl _ (args1 ((hd 4 _ 7 rfl rfl rfl).val rfl)) (kP w hR) ?_
      rintro e w' ⟨ra, rc, M', rfl, hle, ho, hre, hb⟩
      exact ⟨_, rfl, hK _ w' (PrV.by rfl ⟨ra, rc, M', rfl, ho.low hR.size, hre⟩) hb⟩
    · intro ac w hR hd hk K hK
      have e1 : ac.tmps[1]?.getD undef = (.pointer (some ⟨g1, 0, none⟩) : Value) := slot (get_keep (hk 1 (no_dst (by kernel_rfl))) rfl)
      refine yes (want_n rfl) ?_
      have hv := hid (hK (.pointer (some ⟨g1, 2, none⟩)) w (PrV.is rfl rfl) (Below.refl _ _))
      go_simp
      refine kq hv.out ?_
      rfl
    · intro ac w hR hd hk K hK
      have e9 : ac.tmps[9]?.getD undef = (.pointer (some ⟨g1, 2, none⟩) : Value) := slot ((hd 6 _ 9 rfl rfl rfl).val rfl)
      have x0 := stay hR y2
      refine yes (want_n rfl) ?_
      have hv := hid (hK (.slice aa ak az) w (PrV.is rfl rfl) (Below.refl _ _))
      go_simp
      refine kq hv.out ?_
      rfl
    · intro ac w hR hd hk K hK
      refine yes (want_n rfl) ?_
      refine wp_callv 21 _ _ rfl _ Tryz.func21 rfl rfl _ (args1 ((hd 7 _ 10 rfl rfl rfl).val rfl)) (kA w hR) ?_
      rintro e w' ⟨ra, rc, rfl, hle, ho, hb⟩
      exact ⟨_, rfl, hK _ w' (PrV.by rfl ⟨ra, rc, rfl, owns_low ho hR.size, hle⟩) hb⟩
    · intro ac w hR hd hk K hK
      have e1 : ac.tmps[1]?.getD undef = (.pointer (some ⟨g1, 0, none⟩) : Value) := slot (get_keep (hk 1 (no_dst (by kernel_rfl))) rfl)
      refine yes (want_n rfl) ?_
      have hv := hid (hK (.pointer (some ⟨g1, 3, none⟩)) w (PrV.is rfl rfl) (Below.refl _ _))
      go_simp
      refine kq hv.out ?_
      rfl
    · intro ac w hR hd hk K hK
      have e12 : ac.tmps[12]?.getD undef = (.pointer (some ⟨g1, 3, none⟩) : Value) := slot ((hd 9 _ 12 rfl rfl rfl).val rfl)
      have x0 := stay hR y3
      refine yes (want_n rfl) ?_
      have hv := hid (hK (.slice qa qk qc) w (PrV.is rfl rfl) (Below.refl _ _))
      go_simp
      refine kq hv.out ?_
      rfl
    · intro ac w hR hd hk K hK
      refine yes (want_n rfl) ?_
      refine wp_callv 22 _ _ rfl _ Tryz.func22 rfl rfl _ (args1 ((hd 10 _ 13 rfl rfl rfl).val rfl)) (kQ w hR) ?_
      rintro e w' ⟨ra, rc, rfl, hle, ho, hb⟩
      exact ⟨_, rfl, hK _ w' (PrV.by rfl ⟨ra, rc, rfl, owns_low ho hR.size, hle⟩) hb⟩
    · intro ac w hR hd hk K hK
      have e1 : ac.tmps[1]?.getD undef = (.pointer (some ⟨g1, 0, none⟩) : Value) := slot (get_keep (hk 1 (no_dst (by kernel_rfl))) rfl)
      refine yes (want_n rfl) ?_
      have hv := hid (hK (.pointer (some ⟨g1, 4, none⟩)) w (PrV.is rfl rfl) (Below.refl _ _))
      go_simp
      refine kq hv.out ?_
      rfl
    · intro ac w hR hd hk K hK
      have e15 : ac.tmps[15]?.getD undef = (.pointer (some ⟨g1, 4, none⟩) : Value) := slot ((hd 12 _ 15 rfl rfl rfl).val rfl)
      have x0 := stay hR y4
      refine yes (want_n rfl) ?_
      have hv := hid (hK (.int .u8 pol) w (PrV.is rfl rfl) (Below.refl _ _))
      go_simp
      refine kq hv.out ?_
      rfl
    · intro ac w hR hd hk K hK
      obtain ⟨ra, rc, e5, h5⟩ := (hd 2 _ 5 rfl rfl rfl).out rfl
      obtain ⟨rb, rd, M2, e8, h8, h8b⟩ := (hd 5 _ 8 rfl rfl rfl).out rfl
      obtain ⟨re, rf, e11, h11, h11b⟩ := (hd 8 _ 11 rfl rfl rfl).out rfl
      obtain ⟨rg, rh, e14, h14, h14b⟩ := (hd 11 _ 14 rfl rfl rfl).out rfl
      have t5 : ac.tmps[5]?.getD undef = (.slice ra cn rc : Value) := slot e5
      have t8 : ac.tmps[8]?.getD undef = (.slice rb pn rd : Value) := slot e8
      have t11 : ac.tmps[11]?.getD undef = (.slice re ak rf : Value) := slot e11
      have t14 : ac.tmps[14]?.getD undef = (.slice rg qk rh : Value) := slot e14
      have t16 : ac.tmps[16]?.getD undef = (.int .u8 pol : Value) := slot ((hd 13 _ 16 rfl rfl rfl).val rfl)
      refine yes (want_n rfl) ?_
      go_simp
      exact hK _ w (PrV.by rfl ⟨ra, rb, re, rg, rc, rd, rf, rh, M2, rfl, h5, h8, h8b, h11, h11b, h14, h14b⟩) (Below.refl _ _)
  · intro ac1 w1 hdf hsz1 hkp hval hRw
    obtain ⟨ca2, pa2, aa2, qa2, cc2, pc2, az2, qc2, M', q17, hC⟩ := (hval 14 _ 17 rfl rfl).out rfl
    obtain ⟨f, hf⟩ : ∃ f, f = fun d => ac1.tmps.getD d undef := ⟨_, rfl⟩
    have h17 : f 17 = (.agg #[.slice ca2 cn cc2, .slice pa2 pn pc2, .slice aa2 ak az2, .slice qa2 qk qc2, .int .u8 pol] : Value) := by rw [hf]; exact q17
    have hfa := act_filled hdf hsz1 hkp
    rw [← hf] at hfa
    rw [hfa]
    clear hdf hsz1 hkp hval hfa hf q17
    clear ac1
    simp only [fillAll, List.take, List.set_cons_zero, List.set_cons_succ, h17]
    clear h17
    have r2 : w1.heap[g1 + 1]? = some (.cells #[.slice none 0 0, .slice none 0 0, .slice none 0 0, .slice none 0 0, .int .u8 0] 28 (0, 0)) := by rw [hRw.block _ (by omega)]; exact r1.out
    have D1 := bnext bl hRw
    change wpAny Tryz.prog .any _ _ (0 + 1) _ _ _
    refine wpAny_ready (rs := [15]) (by kernel_rfl) (by simp) ?_
    refine AllReady.cons rfl (fun K hK => ?_) AllReady.nil
    refine yes (want_n rfl) ?_
    refine wp_store_row 28 (.tmp 2) (.tmp 17) rfl (g1 + 1) #[.slice ca2 cn cc2, .slice pa2 pn pc2, .slice aa2 ak az2, .slice qa2 qk qc2, .int .u8 pol] rfl rfl 28 _ r2 (by kernel_rfl) rfl (cc_all _ _ _ _ _ _ _ _ _ _ _ _ _) ?_
    refine hK _ _ ?_
    clear hK K
    refine wpAny_done (by kernel_rfl) ?_ _
    have D2 : Below w.heap.size w (w1.setRow (g1 + 1) #[.slice ca2 cn cc2, .slice pa2 pn pc2, .slice aa2 ak az2, .slice qa2 qk qc2, .int .u8 pol]) := below_setRow D1 (by omega) _
    have v1 := hid (setRow_heap w1 (g1 + 1) _ #[.slice ca2 cn cc2, .slice pa2 pn pc2, .slice aa2 ak az2, .slice qa2 qk qc2, .int .u8 pol] _ _ r2)
    have hkC : Cf2 (w1.setRow (g1 + 1) #[.slice ca2 cn cc2, .slice pa2 pn pc2, .slice aa2 ak az2, .slice qa2 qk qc2, .int .u8 pol]) ca2 pa2 aa2 qa2 az2 qc2 ak qk M' I M A Q := by
      refine hC.kp (S := fun k => k = g1 + 1) (kp_setRow (S := fun k => k = g1 + 1) (Kp.refl _ _) rfl _) (fun k hk => by omega)
    go_wp2
    (try simp only [Exit.inBlock, Exit.then])
    refine bodyPost_ret (results_cell_row rfl _ _ (g1 + 1) 28 #[.slice ca2 cn cc2, .slice pa2 pn pc2, .slice aa2 ak az2, .slice qa2 qk qc2, .int .u8 pol] (0, 0) _ rfl v1.out Tryz.underlying28 rfl (by kernel_rfl)) rfl ?_
    exact ⟨ca2, pa2, aa2, qa2, cc2, pc2, az2, qc2, M', rfl, hkC, D2⟩

set_option maxRecDepth 100000 in
set_option maxHeartbeats 2000000 in
theorem samecfg (ca pa aa qa : Option Addr) (cn cc pn pc ak az qk qc : Nat) (pol : Int) (I : List Int) (M : List (Prt × List ByteArray)) (A : List Acc) (Q : List Qu) (ca2 pa2 aa2 qa2 : Option Addr) (cc2 pc2 az2 qc2 : Nat) (M' : List (Prt × List ByteArray)) (w : World) (hin : CfgIn w ca pa aa qa cn cc pn pc ak az qk qc I M A Q) (hC : Cf2 w ca2 pa2 aa2 qa2 az2 qc2 ak qk M' I M A Q) :
    Calls Tryz.prog 15 #[.agg #[.slice ca2 cn cc2, .slice pa2 pn pc2, .slice aa2 ak az2, .slice qa2 qk qc2, .int .u8 pol], .agg #[.slice ca cn cc, .slice pa pn pc, .slice aa ak az, .slice qa qk qc, .int .u8 pol]] w fun e w' => e = .returned (.bool true) ∧ Below w.heap.size w w' := by
  obtain ⟨W0, hW0⟩ : ∃ W0, W0 = ((w.alloc (.cells #[.slice ca2 cn cc2, .slice pa2 pn pc2, .slice aa2 ak az2, .slice qa2 qk qc2, .int .u8 pol] 28)).alloc (.cells #[.slice ca cn cc, .slice pa pn pc, .slice aa ak az, .slice qa qk qc, .int .u8 pol] 28)) := ⟨_, rfl⟩
  have bl0 := below_lit w (.cells #[.slice ca2 cn cc2, .slice pa2 pn pc2, .slice aa2 ak az2, .slice qa2 qk qc2, .int .u8 pol] 28)
  have bl1 := below_lit (w.alloc (.cells #[.slice ca2 cn cc2, .slice pa2 pn pc2, .slice aa2 ak az2, .slice qa2 qk qc2, .int .u8 pol] 28)) (.cells #[.slice ca cn cc, .slice pa pn pc, .slice aa ak az, .slice qa qk qc, .int .u8 pol] 28)
  have bl := bnext bl0 bl1
  have cl := range_below (lit_range w 28 [.slice ca2 cn cc2, .slice pa2 pn pc2, .slice aa2 ak az2, .slice qa2 qk qc2, .int .u8 pol]) bl1
  have p1 := cl 1 _ rfl
  have p2 := cl 2 _ rfl
  have p3 := cl 3 _ rfl
  have dl := lit_range (w.alloc (.cells #[.slice ca2 cn cc2, .slice pa2 pn pc2, .slice aa2 ak az2, .slice qa2 qk qc2, .int .u8 pol] 28)) 28 [.slice ca cn cc, .slice pa pn pc, .slice aa ak az, .slice qa qk qc, .int .u8 pol]
  rw [size_lit] at dl
  have q1 := dl 1 _ rfl
  have q2 := dl 2 _ rfl
  have q3 := dl 3 _ rfl
  simp only [Nat.zero_add] at p1 p2 p3 q1 q2 q3
  clear cl dl
  rw [← hW0] at bl p1 p2 p3 q1 q2 q3
  obtain ⟨x1, x2, x3, x4, x5, x6, x7, x8⟩ := hC
  have kI := sameints ca2 ca cn cc2 cc I W0 hin.il (by have := hin.ib; omega) (x1.below bl) (hin.iat.below bl)
  have kP := fun wx (hb : Below w.heap.size w wx) => sameP pa2 pa pn pc2 pc M M' wx hin.ml (by have := hin.mb; omega) x3 (x2.below hb) (hin.mat.below hb) (fun p hp => (x4 p hp).below hb) (hin.min.below hb)
  have kA := fun wx (hb : Below w.heap.size w wx) => samea_any aa2 aa ak az2 az A wx hin.al (by have := hin.ab; omega) (x5.below hb) (hin.aat.below hb)
  have kQ := fun wx (hb : Below w.heap.size w wx) => samequals qa2 qa qk qc2 qc Q wx hin.ql (by have := hin.qb; omega) (x7.below hb) (hin.qat.below hb)
  clear x1 x2 x3 x4 x5 x6 x7 x8 bl0 bl1
  replace hin := hid hin
  go_enter Tryz.func15, Tryz.ntmps15
  go_wp2_with fail
  rw [← hW0]
  replace hW0 := hid hW0
  refine kI.mono ?_
  rintro e w1 ⟨rfl, hb1⟩
  have D1 := bnext bl hb1
  replace p1 := stay hb1 p1
  replace p2 := stay hb1 p2
  replace p3 := stay hb1 p3
  replace q1 := stay hb1 q1
  replace q2 := stay hb1 q2
  replace q3 := stay hb1 q3
  go_wp2_with fail
  refine (kP _ D1).mono ?_
  rintro e w2 ⟨rfl, hb2⟩
  have D2 := bnext D1 hb2
  replace p2 := stay hb2 p2
  replace p3 := stay hb2 p3
  replace q2 := stay hb2 q2
  replace q3 := stay hb2 q3
  go_wp2_with fail
  refine (kA _ D2).mono ?_
  rintro e w3 ⟨rfl, hb3⟩
  have D3 := bnext D2 hb3
  replace p3 := stay hb3 p3
  replace q3 := stay hb3 q3
  go_wp2_with fail
  refine (kQ _ D3).mono ?_
  rintro e w4 ⟨rfl, hb4⟩
  have D4 := bnext D3 hb4
  go_wp2
  go_ret
  exact ⟨rfl, D4⟩

end Go.Proofs.YtflapjehkgefdaaGreat
