/- order.compare. -/
import Derived.Test.YtflapjehkgefdaaGreatSr7
namespace Go.Proofs.YtflapjehkgefdaaGreat
open Go.Shelf Go.RowKit Go.Lib Go.Sort
set_option linter.unusedVariables false
set_option linter.unusedSimpArgs false
def OrR (A B : Int) (q : Nat) (v : Value) (w : World) : Prop := ∃ b, v = .slice (some ⟨b, 0, none⟩) 2 2 ∧ b < w.heap.size ∧ w.cell? ⟨b, 0, none⟩ = some (.int .i64 A) ∧ w.cell? ⟨b, 1, none⟩ = some (.int .i64 B)
theorem OrR.mono {A B : Int} {V : List Value} {X : List Nat} (q : Nat) (v : Value) (w w' : World) (p : PrV V X (OrR A B) q v w) (h : GR w w') : PrV V X (OrR A B) q v w' := by
  unfold PrV at *
  by_cases hx : X.contains q = true
  · rw [if_pos hx] at p ⊢
    obtain ⟨b, e, hb, h0, h1⟩ := p
    exact ⟨b, e, Nat.lt_of_lt_of_le hb h.le, h.cell hb h0, h.cell hb h1⟩
  · rw [if_neg hx] at p ⊢
    exact p

set_option maxHeartbeats 1000000 in
set_option maxRecDepth 100000 in
theorem cmp17 (x y : Plc) (w : World) : Calls Tryz.prog 29 #[.agg #[.int .i64 x.1, .int .i64 x.2], .agg #[.int .i64 y.1, .int .i64 y.2]] w fun e w' => e = .returned (.int .i64 (cfP x y)) ∧ GR w w' := by
  obtain ⟨x1, x2⟩ := x
  obtain ⟨y1, y2⟩ := y
  show Calls Tryz.prog 29 #[.agg #[.int .i64 x1, .int .i64 x2], .agg #[.int .i64 y1, .int .i64 y2]] w fun e w' => e = .returned (.int .i64 (orP (Lib.compareInt y1 x1) (Lib.compareInt x2 y2))) ∧ GR w w'
  have hA := hid fun W => compare_any y1 x1 W
  have hB := hid fun W => compare_any x2 y2 W
  generalize Lib.compareInt y1 x1 = A at hA ⊢
  generalize Lib.compareInt x2 y2 = B at hB ⊢
  go_enter Tryz.func29, Tryz.ntmps29
  go_wp2_with fail
  have c0 : ((w.alloc (.cells #[.int .i64 x1, .int .i64 x2] 73)).alloc (.cells #[.int .i64 y1, .int .i64 y2] 73)).cell? ⟨w.heap.size, 0, none⟩ = some (.int .i64 x1) := by simp
  have c1 : ((w.alloc (.cells #[.int .i64 x1, .int .i64 x2] 73)).alloc (.cells #[.int .i64 y1, .int .i64 y2] 73)).cell? ⟨w.heap.size, 1, none⟩ = some (.int .i64 x2) := by simp
  have c2 : ((w.alloc (.cells #[.int .i64 x1, .int .i64 x2] 73)).alloc (.cells #[.int .i64 y1, .int .i64 y2] 73)).cell? ⟨w.heap.size + 1, 0, none⟩ = some (.int .i64 y1) := by simp
  have c3 : ((w.alloc (.cells #[.int .i64 x1, .int .i64 x2] 73)).alloc (.cells #[.int .i64 y1, .int .i64 y2] 73)).cell? ⟨w.heap.size + 1, 1, none⟩ = some (.int .i64 y2) := by simp
  have hG : GR w ((w.alloc (.cells #[.int .i64 x1, .int .i64 x2] 73)).alloc (.cells #[.int .i64 y1, .int .i64 y2] 73)) := (GR.alloc _ _).trans (GR.alloc _ _)
  have hg0 : w.heap.size < ((w.alloc (.cells #[.int .i64 x1, .int .i64 x2] 73)).alloc (.cells #[.int .i64 y1, .int .i64 y2] 73)).heap.size := by simp; omega
  have hg1 : w.heap.size + 1 < ((w.alloc (.cells #[.int .i64 x1, .int .i64 x2] 73)).alloc (.cells #[.int .i64 y1, .int .i64 y2] 73)).heap.size := by simp
  generalize ((w.alloc (.cells #[.int .i64 x1, .int .i64 x2] 73)).alloc (.cells #[.int .i64 y1, .int .i64 y2] 73)) = W at *
  generalize hg1' : w.heap.size + 1 = g1 at *
  generalize hg0' : w.heap.size = g0 at *
  replace hG := hid hG
  clear hg1' hg0'
  refine wp_region_drawn (Rel := GR) (Pr := PrV [.pointer (some ⟨g1, 0, none⟩), .int .i64 y1, .pointer (some ⟨g0, 0, none⟩), .int .i64 x1, .int .i64 A, .pointer (some ⟨g0, 1, none⟩), .int .i64 x2, .pointer (some ⟨g1, 1, none⟩), .int .i64 y2, .int .i64 B, undef, .int .i64 (orP A B), .int .i64 (orP A B)] [10] (OrR A B)) (by kernel_rfl) (by kernel_rfl) (GR.drew _) (fun _ _ _ h k => h.trans k) (fun q v w w' p h => OrR.mono q v w w' p h) ?_ ?_
  · refine ⟨?_, ?_, ?_, ?_, ?_, ?_, ?_, ?_, ?_, ?_, ?_, ?_, ?_, trivial⟩
    · intro ac w1 hR hd hk Kx hK
      have e3 : ac.tmps[3]?.getD undef = ((.pointer (some ⟨g1, 0, none⟩) : Value)) := slot (get_keep (hk 3 (no_dst (by kernel_rfl))) rfl)
      refine yes (want_n rfl) ?_
      have hv := hid (hK (.pointer (some ⟨g1, 0, none⟩)) w1 (PrV.is rfl rfl) (GR.refl _))
      go_simp
      exact kq hv.out rfl
    · intro ac w1 hR hd hk Kx hK
      have e5 : ac.tmps[5]?.getD undef = (.pointer (some ⟨g1, 0, none⟩) : Value) := slot ((hd 0 _ 5 rfl rfl rfl).val rfl)
      have x0 := hR.cell (by exact hg1) c2
      refine yes (want_n rfl) ?_
      have hv := hid (hK (.int .i64 y1) w1 (PrV.is rfl rfl) (GR.refl _))
      go_simp
      exact kq hv.out rfl
    · intro ac w1 hR hd hk Kx hK
      have e2 : ac.tmps[2]?.getD undef = ((.pointer (some ⟨g0, 0, none⟩) : Value)) := slot (get_keep (hk 2 (no_dst (by kernel_rfl))) rfl)
      refine yes (want_n rfl) ?_
      have hv := hid (hK (.pointer (some ⟨g0, 0, none⟩)) w1 (PrV.is rfl rfl) (GR.refl _))
      go_simp
      exact kq hv.out rfl
    · intro ac w1 hR hd hk Kx hK
      have e7 : ac.tmps[7]?.getD undef = (.pointer (some ⟨g0, 0, none⟩) : Value) := slot ((hd 2 _ 7 rfl rfl rfl).val rfl)
      have x0 := hR.cell (by exact hg0) c0
      refine yes (want_n rfl) ?_
      have hv := hid (hK (.int .i64 x1) w1 (PrV.is rfl rfl) (GR.refl _))
      go_simp
      exact kq hv.out rfl
    · intro ac w1 hR hd hk Kx hK
      exact yes (want_n rfl) (wp_callv 50 _ _ rfl _ Tryz.func50 rfl rfl _ (args2 ((hd 1 _ 6 rfl rfl rfl).val rfl) ((hd 3 _ 8 rfl rfl rfl).val rfl)) (hA.out w1) (by rintro e w2 ⟨rfl, rfl⟩; exact ⟨_, rfl, hK _ _ (PrV.is rfl rfl) (GR.refl _)⟩))
    · intro ac w1 hR hd hk Kx hK
      have e2 : ac.tmps[2]?.getD undef = ((.pointer (some ⟨g0, 0, none⟩) : Value)) := slot (get_keep (hk 2 (no_dst (by kernel_rfl))) rfl)
      refine yes (want_n rfl) ?_
      have hv := hid (hK (.pointer (some ⟨g0, 1, none⟩)) w1 (PrV.is rfl rfl) (GR.refl _))
      go_simp
      exact kq hv.out rfl
    · intro ac w1 hR hd hk Kx hK
      have e10 : ac.tmps[10]?.getD undef = (.pointer (some ⟨g0, 1, none⟩) : Value) := slot ((hd 5 _ 10 rfl rfl rfl).val rfl)
      have x0 := hR.cell (by exact hg0) c1
      refine yes (want_n rfl) ?_
      have hv := hid (hK (.int .i64 x2) w1 (PrV.is rfl rfl) (GR.refl _))
      go_simp
      exact kq hv.out rfl
    · intro ac w1 hR hd hk Kx hK
      have e3 : ac.tmps[3]?.getD undef = ((.pointer (some ⟨g1, 0, none⟩) : Value)) := slot (get_keep (hk 3 (no_dst (by kernel_rfl))) rfl)
      refine yes (want_n rfl) ?_
      have hv := hid (hK (.pointer (some ⟨g1, 1, none⟩)) w1 (PrV.is rfl rfl) (GR.refl _))
      go_simp
      exact kq hv.out rfl
    · intro ac w1 hR hd hk Kx hK
      have e12 : ac.tmps[12]?.getD undef = (.pointer (some ⟨g1, 1, none⟩) : Value) := slot ((hd 7 _ 12 rfl rfl rfl).val rfl)
      have x0 := hR.cell (by exact hg1) c3
      refine yes (want_n rfl) ?_
      have hv := hid (hK (.int .i64 y2) w1 (PrV.is rfl rfl) (GR.refl _))
      go_simp
      exact kq hv.out rfl
    · intro ac w1 hR hd hk Kx hK
      exact yes (want_n rfl) (wp_callv 50 _ _ rfl _ Tryz.func50 rfl rfl _ (args2 ((hd 6 _ 11 rfl rfl rfl).val rfl) ((hd 8 _ 13 rfl rfl rfl).val rfl)) (hB.out w1) (by rintro e w2 ⟨rfl, rfl⟩; exact ⟨_, rfl, hK _ _ (PrV.is rfl rfl) (GR.refl _)⟩))
    · intro ac w1 hR hd hk Kx hK
      have e9 : ac.tmps[9]?.getD undef = (.int .i64 A : Value) := slot ((hd 4 _ 9 rfl rfl rfl).val rfl)
      have e14 : ac.tmps[14]?.getD undef = (.int .i64 B : Value) := slot ((hd 9 _ 14 rfl rfl rfl).val rfl)
      refine yes (want_n rfl) ?_
      have hv := hid (hK (.slice (some ⟨w1.heap.size, 0, none⟩) 2 2) (w1.alloc (.cells #[.int .i64 A, .int .i64 B] 3)) (PrV.by rfl ⟨_, rfl, by simp, by simp, by simp⟩) (GR.alloc _ _))
      go_simp
      exact hv.out
    · intro ac w1 hR hd hk Kx hK
      obtain ⟨bb, ee, hbl, q0, q1⟩ := (hd 10 _ 15 rfl rfl rfl).out rfl
      exact yes (want_n rfl) (wp_callv 49 _ _ rfl _ Tryz.func49 rfl rfl _ (args1 ee) (or_any bb A B w1 q0 q1) (by rintro e w2 ⟨rfl, rfl⟩; exact ⟨_, rfl, hK _ _ (PrV.is rfl rfl) (GR.refl _)⟩))
    · intro ac w1 hR hd hk Kx hK
      have e16 : ac.tmps[16]?.getD undef = (.int .i64 (orP A B) : Value) := slot ((hd 11 _ 16 rfl rfl rfl).val rfl)
      refine yes (want_n rfl) ?_
      have hv := hid (hK (.int .i64 (orP A B)) w1 (PrV.is rfl rfl) (GR.refl _))
      go_simp
      exact kq hv.out rfl
  · intro ac w1 hdf hsz hkp hval hRw
    obtain ⟨ff, hf⟩ : ∃ ff, ff = fun d => ac.tmps.getD d undef := ⟨_, rfl⟩
    have h4 : ff 4 = .int .i64 (orP A B) := by rw [hf]; exact (hval 12 _ 4 rfl rfl).val rfl
    have hfa := act_filled hdf hsz hkp
    rw [← hf] at hfa
    rw [hfa]
    clear hdf hsz hkp hval hfa hf
    clear ac
    simp only [fillAll, List.set_cons_zero, List.set_cons_succ, h4]
    have hGG := hid (hG.out.trans hRw)
    clear hRw c0 c1 c2 c3 hG
    go_wp2
    go_ret
    exact ⟨rfl, hGG.out⟩
theorem cmp_lays (blk off size : Nat) (w : World) : CmpLays Tryz.prog 29 #[] plc 2 cfP blk off size w := fun _ _ _ _ x y => cmp17 x y _

/-- slices.SortStableFunc of places. -/
theorem sort_any (g n c : Nat) (l : List Plc) (w : World) (hn : l.length = n) (hl : n < 1000000000000000000) (hg : g < w.heap.size) (hH : HoldsK plc 2 w g 0 l.toArray) :
    Calls Tryz.prog 47 #[.slice (some ⟨g, 0, none⟩) n c, .func (.func 29) #[] #[]] w fun e w' => e = .returned (.tuple #[]) ∧ ∃ l' : List Plc, l'.Perm l ∧ l'.Pairwise (fun a b => ltOf cfP b a = false) ∧ HoldsK plc 2 w' g 0 l'.toArray ∧ Kp (fun k => k = g) w w' := by
  have hsz : l.toArray.size = n := by simpa using hn
  have R : RowK plc 2 w g 0 l.toArray := ⟨plc_len, plc_one, hH, hg⟩
  have hcon := stable_any c n l.toArray cfP swo_cf w (cmp_lays g 0 n w) R rfl hsz (SWK.start hH) hl
  go_enter Tryz.func47, Tryz.ntmps47
  go_wp2_with (go_at_call 68; refine hcon.mono ?_; rintro e w' ⟨rfl, d', ⟨hp, hs⟩, S⟩)
  go_end0
  have hd : d'.size = n := by rw [hp.1]; exact hsz
  have hperm : d'.toList.Perm l := by
    have := hp.2.2
    rw [Array.extract_eq_self_of_le (by omega), Array.extract_eq_self_of_le (by omega)] at this
    simpa using this
  refine ⟨rfl, d'.toList, hperm, ?_, ?_, ?_⟩
  · rw [List.pairwise_iff_getElem]
    intro i j hi hj hij
    have hi' : i < d'.size := by simpa using hi
    have hj' : j < d'.size := by simpa using hj
    have := hs i j (Nat.zero_le _) hij (by omega)
    rw [getElem!_pos d' i hi', getElem!_pos d' j hj'] at this
    simpa using this
  · rw [Array.toArray_toList]
    exact S.holds hg hH (by rw [hd, hsz])
  · obtain ⟨m, os, rfl⟩ := S
    unfold sortWorldK
    have hs : (putRowK plc 2 (Sort.ahead w m) g 0 d').heap.size = w.heap.size := by simp [putRowK, putRow, mapBlock, Sort.ahead]
    refine ⟨rfl, rfl, rfl, by rw [size_grow, hs]; omega, fun k hk hn => ?_⟩
    rw [heap_grow_old _ _ (by rw [hs]; exact hk)]
    unfold putRowK putRow mapBlock
    simp only [Sort.ahead]
    rw [Array.getElem?_modify]
    rw [if_neg (by omega)]
end Go.Proofs.YtflapjehkgefdaaGreat
