/- After of the document's disk: a cut. -/
import Derived.Test.YtpngnmogjmdmhaaRefB
import Derived.Test.YtpngnmogjmdmhaaApartB
import Derived.Test.YtpngnmogjmdmhaaPlaysVals
import Derived.Test.YtpngnmogjmdmhaaDraw2
namespace Go.Proofs.Ytpngnmogjmdmhaa
open Go.RowKit
set_option linter.unusedVariables false

theorem cell_q {w w' : World} {ad : Addr} {v : Value} (hb : Below w.heap.size w w') (h : w.cell? ad = some v) : w'.cell? ad = some v := by
  rw [hb.cell (p := ad) (World.block_lt_of_cell? w _ h)]; exact h

def pv11 (g7 g9 f n cap N : Nat) (a : Option Addr) : List Value := [.pointer (some ⟨g9, 0, none⟩), .int .i64 (f : Int), .pointer (some ⟨g9, 0, none⟩), .int .i64 (f : Int), .pointer (some ⟨g7, f, none⟩), .slice a n cap, .pointer (some ⟨g9, 2, none⟩), .int .i64 (N : Int), .slice a N cap, undef, .pointer (some ⟨g7, f, none⟩)]

set_option maxRecDepth 100000 in
set_option maxHeartbeats 4000000 in
theorem after_r11 {F : Act → World → Prop} {w : World} {T : Nat → Prop} {g7 g9 f n cap N : Nat} {a : Option Addr} {l : List UInt8} {c0 c1 c2 c3 c4 c5 c6 c8 c10 c11 c12 c13 c14 c15 c16 c17 c18 c19 c20 c21 c22 c23 c24 c25 c26 c27 c28 c29 c30 c31 c32 c33 c34 c35 c36 c37 c38 c39 c40 c41 c42 c43 c44 c45 c46 c47 c48 c49 c50 c51 c52 c53 c54 c55 c56 c57 c58 c59 c60 c61 c62 c63 c64 c65 c66 : Value}
    (hf3 : f < 3) (y0 : w.cell? ⟨g9, 0, none⟩ = some (.int .i64 (f : Int))) (y2 : w.cell? ⟨g9, 2, none⟩ = some (.int .i64 (N : Int))) (yf : w.cell? ⟨g7, f, none⟩ = some (.slice a n cap)) (hfz : Hid (∀ w', Below w.heap.size w w' → w'.frozen? ⟨g7, f, none⟩ = false))
    (hl : l.length = n) (hn : n ≤ 140737488355328) (hc : n ≤ cap) (hN : N ≤ n) (hat : Hid (At w a l)) (hT : Hid (∀ k, T k → k < w.heap.size))
    (hQ : Hid (∀ (d45 d46 d47 d48 d49 d50 d51 d52 d53 d54 d55 : Value) (ra : Option Addr) (rc : Nat) (w' : World), FA w' T ra rc (l.take N) → Below w.heap.size w w' → F ⟨#[c0, c1, c2, c3, c4, c5, c6, .pointer (some ⟨g7, 0, none⟩), c8, .pointer (some ⟨g9, 0, none⟩), c10, c11, c12, c13, c14, c15, c16, c17, c18, c19, c20, c21, c22, c23, c24, c25, c26, c27, c28, c29, c30, c31, c32, c33, c34, c35, c36, c37, c38, c39, c40, c41, c42, c43, c44, d45, d46, d47, d48, d49, d50, d51, d52, d53, d54, d55, c56, c57, c58, c59, c60, c61, c62, c63, c64, c65, c66], []⟩ (w'.setCell ⟨g7, f, none⟩ (.slice ra N rc)))) :
    Code.wp Try.prog ((Try.f60.body.bind (regAt 11)).getD .skip) (Nrm F) ⟨#[c0, c1, c2, c3, c4, c5, c6, .pointer (some ⟨g7, 0, none⟩), c8, .pointer (some ⟨g9, 0, none⟩), c10, c11, c12, c13, c14, c15, c16, c17, c18, c19, c20, c21, c22, c23, c24, c25, c26, c27, c28, c29, c30, c31, c32, c33, c34, c35, c36, c37, c38, c39, c40, c41, c42, c43, c44, c45, c46, c47, c48, c49, c50, c51, c52, c53, c54, c55, c56, c57, c58, c59, c60, c61, c62, c63, c64, c65, c66], []⟩ w := by
  conv => arg 2; whnf
  have i0 : (0 : Int) ≤ (f : Int) := by omega
  have i3 : (f : Int) < 3 := by omega
  have n0 : (0 : Int) ≤ (N : Int) := by omega
  have n1 : N ≤ cap := by omega
  have n2 : (N : Int) ≤ (cap : Int) := by omega
  refine Fr.wp_region_front 11 (Rel := fun w w' => Below w.heap.size w w') (Pr := PrV (pv11 g7 g9 f n cap N a) [9] (fun _ v w => ∃ ra rc, v = .slice ra N rc ∧ FA w T ra rc (l.take N))) (by kernel_rfl) (by kernel_rfl) (drew_below _) bel_tr (PrV.mono (fun q v w w' h hb => by obtain ⟨ra, rc, e, h⟩ := h; exact ⟨ra, rc, e, h.below hb⟩)) ?_ (by kernel_rfl) ?_
  · refine ⟨?_, ?_, ?_, ?_, ?_, ?_, ?_, ?_, ?_, ?_, ?_, trivial⟩
    · intro ac w hR hd hk K hK
      have e9 : ac.tmps[9]?.getD undef = (.pointer (some ⟨g9, 0, none⟩) : Value) := slot (get_keep (hk 9 (no_dst (by kernel_rfl))) rfl)
      refine yes (want_n rfl) ?_
      have hv := hid (hK (.pointer (some ⟨g9, 0, none⟩)) w (PrV.is rfl rfl) (Below.refl _ _))
      go_simp
      refine kq hv.out ?_
      rfl
    · intro ac w hR hd hk K hK
      have e45 : ac.tmps[45]?.getD undef = (.pointer (some ⟨g9, 0, none⟩) : Value) := slot ((hd 0 _ 45 rfl rfl rfl).val rfl)
      have x0 := cell_q hR y0
      refine yes (want_n rfl) ?_
      have hv := hid (hK (.int .i64 (f : Int)) w (PrV.is rfl rfl) (Below.refl _ _))
      go_simp
      refine kq hv.out ?_
      rfl
    · intro ac w hR hd hk K hK
      have e9 : ac.tmps[9]?.getD undef = (.pointer (some ⟨g9, 0, none⟩) : Value) := slot (get_keep (hk 9 (no_dst (by kernel_rfl))) rfl)
      refine yes (want_n rfl) ?_
      have hv := hid (hK (.pointer (some ⟨g9, 0, none⟩)) w (PrV.is rfl rfl) (Below.refl _ _))
      go_simp
      refine kq hv.out ?_
      rfl
    · intro ac w hR hd hk K hK
      have e47 : ac.tmps[47]?.getD undef = (.pointer (some ⟨g9, 0, none⟩) : Value) := slot ((hd 2 _ 47 rfl rfl rfl).val rfl)
      have x0 := cell_q hR y0
      refine yes (want_n rfl) ?_
      have hv := hid (hK (.int .i64 (f : Int)) w (PrV.is rfl rfl) (Below.refl _ _))
      go_simp
      refine kq hv.out ?_
      rfl
    · intro ac w hR hd hk K hK
      have e7 : ac.tmps[7]?.getD undef = (.pointer (some ⟨g7, 0, none⟩) : Value) := slot (get_keep (hk 7 (no_dst (by kernel_rfl))) rfl)
      have e48 : ac.tmps[48]?.getD undef = (.int .i64 (f : Int) : Value) := slot ((hd 3 _ 48 rfl rfl rfl).val rfl)
      refine yes (want_n rfl) ?_
      have hv := hid (hK (.pointer (some ⟨g7, f, none⟩)) w (PrV.is rfl rfl) (Below.refl _ _))
      go_simp
      refine kq hv.out ?_
      rfl
    · intro ac w hR hd hk K hK
      have e49 : ac.tmps[49]?.getD undef = (.pointer (some ⟨g7, f, none⟩) : Value) := slot ((hd 4 _ 49 rfl rfl rfl).val rfl)
      have x0 := cell_q hR yf
      refine yes (want_n rfl) ?_
      have hv := hid (hK (.slice a n cap) w (PrV.is rfl rfl) (Below.refl _ _))
      go_simp
      refine kq hv.out ?_
      rfl
    · intro ac w hR hd hk K hK
      have e9 : ac.tmps[9]?.getD undef = (.pointer (some ⟨g9, 0, none⟩) : Value) := slot (get_keep (hk 9 (no_dst (by kernel_rfl))) rfl)
      refine yes (want_n rfl) ?_
      have hv := hid (hK (.pointer (some ⟨g9, 2, none⟩)) w (PrV.is rfl rfl) (Below.refl _ _))
      go_simp
      refine kq hv.out ?_
      rfl
    · intro ac w hR hd hk K hK
      have e51 : ac.tmps[51]?.getD undef = (.pointer (some ⟨g9, 2, none⟩) : Value) := slot ((hd 6 _ 51 rfl rfl rfl).val rfl)
      have x0 := cell_q hR y2
      refine yes (want_n rfl) ?_
      have hv := hid (hK (.int .i64 (N : Int)) w (PrV.is rfl rfl) (Below.refl _ _))
      go_simp
      refine kq hv.out ?_
      rfl
    · intro ac w hR hd hk K hK
      have e50 : ac.tmps[50]?.getD undef = (.slice a n cap : Value) := slot ((hd 5 _ 50 rfl rfl rfl).val rfl)
      have e52 : ac.tmps[52]?.getD undef = (.int .i64 (N : Int) : Value) := slot ((hd 7 _ 52 rfl rfl rfl).val rfl)
      refine yes (want_n rfl) ?_
      have hv := hid (hK (.slice a N cap) w (PrV.is rfl rfl) (Below.refl _ _))
      go_simp
      refine kq hv.out ?_
      rfl
    · intro ac w hR hd hk K hK
      refine yes (want_n rfl) ?_
      refine wp_callv 56 _ _ rfl _ Try.func56 rfl rfl _ (args1 ((hd 8 _ 53 rfl rfl rfl).val rfl)) (copy_any a cap N (l.take N) w (by rw [List.length_take]; omega) (by omega) (at_take (hat.out.below hR) _)) ?_
      rintro e w' ⟨v, rfl, ho, hb⟩
      obtain ⟨ra, rc, hv5, _, _⟩ := ho.form
      rw [show (l.take N).length = N by rw [List.length_take]; omega] at hv5
      subst hv5
      exact ⟨_, rfl, hK _ w' (PrV.by rfl ⟨ra, rc, rfl, FA.own ho (fun k hk => Nat.lt_of_lt_of_le (hT.out k hk) hR.size)⟩) hb⟩
    · intro ac w hR hd hk K hK
      have e7 : ac.tmps[7]?.getD undef = (.pointer (some ⟨g7, 0, none⟩) : Value) := slot (get_keep (hk 7 (no_dst (by kernel_rfl))) rfl)
      have e46 : ac.tmps[46]?.getD undef = (.int .i64 (f : Int) : Value) := slot ((hd 1 _ 46 rfl rfl rfl).val rfl)
      refine yes (want_n rfl) ?_
      have hv := hid (hK (.pointer (some ⟨g7, f, none⟩)) w (PrV.is rfl rfl) (Below.refl _ _))
      go_simp
      refine kq hv.out ?_
      rfl
  · intro ac w1 hdf hsz hkp hval hR
    have q55 : ac.tmps.getD 55 undef = (.pointer (some ⟨g7, f, none⟩) : Value) := (hval 10 _ 55 rfl rfl).val rfl
    obtain ⟨ra, rc, q54, hfa5⟩ := (hval 9 _ 54 rfl rfl).out rfl
    obtain ⟨ff, hf⟩ : ∃ ff, ff = fun d => ac.tmps.getD d undef := ⟨_, rfl⟩
    have h55 : ff 55 = (.pointer (some ⟨g7, f, none⟩) : Value) := by rw [hf]; exact q55
    have h54 : ff 54 = (.slice ra N rc : Value) := by rw [hf]; exact q54
    have hfa := act_filled hdf hsz hkp
    rw [← hf] at hfa
    rw [hfa]
    clear hdf hsz hkp hval hfa hf q55 q54
    clear ac
    simp only [fillAll, List.take, List.set_cons_zero, List.set_cons_succ, h54, h55]
    clear h54 h55
    have x0 := cell_q hR yf
    have x1 := hfz.out w1 (hR)
    skip
    change wpAny Try.prog .any _ _ (0 + 1) _ _ _
    refine wpAny_ready (rs := [11]) (by kernel_rfl) (by simp) ?_
    refine AllReady.cons rfl (fun K hK => ?_) AllReady.nil
    go_simp
    refine hK _ _ ?_
    clear hK K
    refine wpAny_done (by kernel_rfl) ?_ _
    exact hQ.out _ _ _ _ _ _ _ _ _ _ _ ra rc w1 hfa5 (hR)

end Go.Proofs.Ytpngnmogjmdmhaa
