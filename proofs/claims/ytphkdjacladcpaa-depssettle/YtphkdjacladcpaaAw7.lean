/- The chapter's examples: one of them. -/
import Derived.Test.YtphkdjacladcpaaDt
import Derived.Great.BuildSlice
namespace Go.Proofs.Ytphkdjacladcpaa
open Go.RowKit
set_option linter.unusedVariables false
set_option linter.unusedSimpArgs false

def regAt (n : Nat) : Code → Option Code
  | .region m o d => if m == n then some (.region m o d) else none
  | .block _ c => regAt n c
  | .seq a b => match regAt n a with
    | some x => some x
    | none => regAt n b
  | .cond _ a b => match regAt n a with
    | some x => some x
    | none => regAt n b
  | .loop c => regAt n c
  | .scope c => regAt n c
  | _ => none

/-- Only the way straight on. -/
def Nrm (F : Act → World → Prop) : Exit → Act → World → Prop
  | .normal => F
  | _ => fun _ _ => False

theorem nrm_of {Q : Exit → Act → World → Prop} : ∀ e a w, Nrm (Q .normal) e a w → Q e a w := by
  intro e a w h
  cases e <;> first | exact h | exact h.elim

set_option maxRecDepth 100000 in
set_option maxHeartbeats 4000000 in
theorem aw_r7 {FF : Act → World → Prop} {w : World} {d : Dp} {a : Option Addr} {L : List Job} {g tb tc2 i : Nat} {c0 c6 c7 c8 c9 c10 c11 c12 c13 c14 c15 c16 c17 c18 c19 c20 c21 c22 c23 c24 c25 c26 c27 c28 c29 c30 c31 c32 c33 c34 c35 c36 c37 c38 c39 c40 c41 c42 c43 c44 c45 c46 c47 c48 c49 c50 c51 : Value}
    (hrow : Hid (w.heap[g]? = some (.cells (dc2 d).toArray 51 (0, 0)))) (hg : g < w.heap.size) (hL3 : L.length = 3) (hat : Hid (JAt w a L)) (hi6 : i < 6)
    (hH : Hid (w.cell? ⟨tb, i, none⟩ = some (.bool (holdsP [d] L)))) (hN : Hid (w.cell? ⟨tc2, i, none⟩ = some (.bool (neverP [d] L))))
    (hQ : Hid (∀ (d23 d24 d25 d26 d27 d28 d29 d30 d31 d32 d33 d34 d35 d36 d37 d38 d39 d40 : Value) (w' : World), Below w.heap.size w w' → d40 = .bool false → FF ⟨#[c0, .slice a 3 3, .pointer (some ⟨tb, 0, none⟩), .pointer (some ⟨tc2, 0, none⟩), .int .i64 (i : Int), .pointer (some ⟨g, 0, none⟩), c6, c7, c8, c9, c10, c11, c12, c13, c14, c15, c16, c17, c18, c19, c20, c21, c22, d23, d24, d25, d26, d27, d28, d29, d30, d31, d32, d33, d34, d35, d36, d37, d38, d39, d40, c41, c42, c43, c44, c45, c46, c47, c48, c49, c50, c51], []⟩ w')) :
    Code.wp Try.prog ((Try.f6.body.bind (regAt 7)).getD .skip) (Nrm FF) ⟨#[c0, .slice a 3 3, .pointer (some ⟨tb, 0, none⟩), .pointer (some ⟨tc2, 0, none⟩), .int .i64 (i : Int), .pointer (some ⟨g, 0, none⟩), c6, c7, c8, c9, c10, c11, c12, c13, c14, c15, c16, c17, c18, c19, c20, c21, c22, c23, c24, c25, c26, c27, c28, c29, c30, c31, c32, c33, c34, c35, c36, c37, c38, c39, c40, c41, c42, c43, c44, c45, c46, c47, c48, c49, c50, c51], []⟩ w := by
  conv => arg 2; whnf
  refine wp_region_drawn (Rel := fun w w' => Below w.heap.size w w') (Pr := PrV [.agg (dc2 d).toArray, undef, .slice a 3 3, .bool (holdsP [d] L), .int .i64 (i : Int), .pointer (some ⟨tb, i, none⟩), .bool (holdsP [d] L), .bool false, .bool false, .agg (dc2 d).toArray, undef, .slice a 3 3, .bool (neverP [d] L), .int .i64 (i : Int), .pointer (some ⟨tc2, i, none⟩), .bool (neverP [d] L), .bool false, .bool false] [1, 10] (fun q v w => ∃ b, v = .slice (some ⟨b, 0, none⟩) 1 1 ∧ DAt w (some ⟨b, 0, none⟩) [d])) (by kernel_rfl) (by kernel_rfl) (drew_below _) bel_tr (PrV.mono (fun _ _ _ _ h hb => by obtain ⟨b, h1, h2⟩ := h; exact ⟨b, h1, h2.below hb⟩)) ?_ ?_
  · refine ⟨?_, ?_, ?_, ?_, ?_, ?_, ?_, ?_, ?_, ?_, ?_, ?_, ?_, ?_, ?_, ?_, ?_, ?_, trivial⟩
    · intro ac w1 hR hd hk Kx hK
      exact yes (want_n rfl) (wp_load_row 51 _ rfl g (get_keep (hk 5 (no_dst (by kernel_rfl))) rfl) 51 (dc2 d).toArray (0, 0) _ (by rw [hR.block _ hg]; exact hrow.out) Try.underlying51 rfl (by kernel_rfl) (hK _ w1 (PrV.is rfl rfl) (Below.refl _ _)))
    · intro ac w1 hR hd hk Kx hK
      have e23 : ac.tmps[23]?.getD undef = (.agg (dc2 d).toArray : Value) := slot ((hd 0 _ 23 rfl rfl rfl).val rfl)
      have bl := below_lit w1 (.cells (dc2 d).toArray 51)
      have hda : DAt (w1.alloc (.cells (dc2 d).toArray 51)) (some ⟨w1.heap.size, 0, none⟩) [d] := cat_lit w1 51 (dc2 d) _ rfl
      refine yes (want_n rfl) ?_
      have hv := hid (hK (.slice (some ⟨w1.heap.size, 0, none⟩) 1 1) (w1.alloc (.cells (dc2 d).toArray 51)) (PrV.by rfl ⟨_, rfl, hda⟩) bl)
      obtain ⟨K, I⟩ := d
      go_simp
      exact hv.out
    · intro ac w1 hR hd hk Kx hK
      exact yes (want_n rfl) (wp_mv _ rfl _ (get_keep (hk 1 (no_dst (by kernel_rfl))) rfl) (hK _ w1 (PrV.is rfl rfl) (Below.refl _ _)))
    · intro ac w1 hR hd hk Kx hK
      obtain ⟨bb, ee, hda⟩ := (hd 1 _ 24 rfl rfl rfl).out rfl
      exact yes (want_n rfl) (wp_callv 11 _ _ rfl _ Try.func11 rfl rfl _ (args2 ee ((hd 2 _ 25 rfl rfl rfl).val rfl)) (holds_any (some ⟨bb, 0, none⟩) 1 1 [d] a 3 3 L w1 rfl (by decide) hda hL3 (by decide) (hat.out.below hR)) (by rintro e w2 ⟨rfl, hb⟩; exact ⟨_, rfl, hK _ w2 (PrV.is rfl rfl) hb⟩))
    · intro ac w1 hR hd hk Kx hK
      exact yes (want_n rfl) (wp_mv _ rfl _ (get_keep (hk 4 (no_dst (by kernel_rfl))) rfl) (hK _ w1 (PrV.is rfl rfl) (Below.refl _ _)))
    · intro ac w1 hR hd hk Kx hK
      have e27 : ac.tmps[27]?.getD undef = (.int .i64 (i : Int) : Value) := slot ((hd 4 _ 27 rfl rfl rfl).val rfl)
      have e2 : ac.tmps[2]?.getD undef = (.pointer (some ⟨tb, 0, none⟩) : Value) := slot (get_keep (hk 2 (no_dst (by kernel_rfl))) rfl)
      have i1 : (i : Int) < 6 := by omega
      refine yes (want_n rfl) ?_
      have hv := hid (hK (.pointer (some ⟨tb, i, none⟩)) w1 (PrV.is rfl rfl) (Below.refl _ _))
      go_simp
      exact kq hv.out rfl
    · intro ac w1 hR hd hk Kx hK
      have e28 : ac.tmps[28]?.getD undef = (.pointer (some ⟨tb, i, none⟩) : Value) := slot ((hd 5 _ 28 rfl rfl rfl).val rfl)
      have x0 := stay hR hH.out
      refine yes (want_n rfl) ?_
      have hv := hid (hK (.bool (holdsP [d] L)) w1 (PrV.is rfl rfl) (Below.refl _ _))
      go_simp
      refine kq hv.out ?_
      rfl
    · intro ac w1 hR hd hk Kx hK
      have e26 : ac.tmps[26]?.getD undef = (.bool (holdsP [d] L) : Value) := slot ((hd 3 _ 26 rfl rfl rfl).val rfl)
      have e29 : ac.tmps[29]?.getD undef = (.bool (holdsP [d] L) : Value) := slot ((hd 6 _ 29 rfl rfl rfl).val rfl)
      refine yes (want_n rfl) ?_
      have hv := hid (hK (.bool false) w1 (PrV.is rfl rfl) (Below.refl _ _))
      generalize holdsP [d] L = zz at *
      cases zz
      all_goals
        go_simp
        exact kq hv.out rfl
    · intro ac w1 hR hd hk Kx hK
      exact yes (want_n rfl) (wp_mv _ rfl _ ((hd 7 _ 30 rfl rfl rfl).val rfl) (hK _ w1 (PrV.is rfl rfl) (Below.refl _ _)))
    · intro ac w1 hR hd hk Kx hK
      exact yes (want_g rfl rfl ((hd 8 _ 31 rfl rfl rfl).val rfl)) (wp_load_row 51 _ rfl g (get_keep (hk 5 (no_dst (by kernel_rfl))) rfl) 51 (dc2 d).toArray (0, 0) _ (by rw [hR.block _ hg]; exact hrow.out) Try.underlying51 rfl (by kernel_rfl) (hK _ w1 (PrV.is rfl rfl) (Below.refl _ _)))
    · intro ac w1 hR hd hk Kx hK
      have e32 : ac.tmps[32]?.getD undef = (.agg (dc2 d).toArray : Value) := slot ((hd 9 _ 32 rfl rfl rfl).val rfl)
      have bl := below_lit w1 (.cells (dc2 d).toArray 51)
      have hda : DAt (w1.alloc (.cells (dc2 d).toArray 51)) (some ⟨w1.heap.size, 0, none⟩) [d] := cat_lit w1 51 (dc2 d) _ rfl
      refine yes (want_g rfl rfl ((hd 8 _ 31 rfl rfl rfl).val rfl)) ?_
      have hv := hid (hK (.slice (some ⟨w1.heap.size, 0, none⟩) 1 1) (w1.alloc (.cells (dc2 d).toArray 51)) (PrV.by rfl ⟨_, rfl, hda⟩) bl)
      obtain ⟨K, I⟩ := d
      go_simp
      exact hv.out
    · intro ac w1 hR hd hk Kx hK
      exact yes (want_g rfl rfl ((hd 8 _ 31 rfl rfl rfl).val rfl)) (wp_mv _ rfl _ (get_keep (hk 1 (no_dst (by kernel_rfl))) rfl) (hK _ w1 (PrV.is rfl rfl) (Below.refl _ _)))
    · intro ac w1 hR hd hk Kx hK
      obtain ⟨bb, ee, hda⟩ := (hd 10 _ 33 rfl rfl rfl).out rfl
      exact yes (want_g rfl rfl ((hd 8 _ 31 rfl rfl rfl).val rfl)) (wp_callv 13 _ _ rfl _ Try.func13 rfl rfl _ (args2 ee ((hd 11 _ 34 rfl rfl rfl).val rfl)) (never_any (some ⟨bb, 0, none⟩) 1 1 [d] a 3 3 L w1 rfl (by decide) hda hL3 (by decide) (hat.out.below hR)) (by rintro e w2 ⟨rfl, hb⟩; exact ⟨_, rfl, hK _ w2 (PrV.is rfl rfl) hb⟩))
    · intro ac w1 hR hd hk Kx hK
      exact yes (want_g rfl rfl ((hd 8 _ 31 rfl rfl rfl).val rfl)) (wp_mv _ rfl _ (get_keep (hk 4 (no_dst (by kernel_rfl))) rfl) (hK _ w1 (PrV.is rfl rfl) (Below.refl _ _)))
    · intro ac w1 hR hd hk Kx hK
      have e36 : ac.tmps[36]?.getD undef = (.int .i64 (i : Int) : Value) := slot ((hd 13 _ 36 rfl rfl rfl).val rfl)
      have e3 : ac.tmps[3]?.getD undef = (.pointer (some ⟨tc2, 0, none⟩) : Value) := slot (get_keep (hk 3 (no_dst (by kernel_rfl))) rfl)
      have i1 : (i : Int) < 6 := by omega
      refine yes (want_g rfl rfl ((hd 8 _ 31 rfl rfl rfl).val rfl)) ?_
      have hv := hid (hK (.pointer (some ⟨tc2, i, none⟩)) w1 (PrV.is rfl rfl) (Below.refl _ _))
      go_simp
      exact kq hv.out rfl
    · intro ac w1 hR hd hk Kx hK
      have e37 : ac.tmps[37]?.getD undef = (.pointer (some ⟨tc2, i, none⟩) : Value) := slot ((hd 14 _ 37 rfl rfl rfl).val rfl)
      have x0 := stay hR hN.out
      refine yes (want_g rfl rfl ((hd 8 _ 31 rfl rfl rfl).val rfl)) ?_
      have hv := hid (hK (.bool (neverP [d] L)) w1 (PrV.is rfl rfl) (Below.refl _ _))
      go_simp
      refine kq hv.out ?_
      rfl
    · intro ac w1 hR hd hk Kx hK
      have e35 : ac.tmps[35]?.getD undef = (.bool (neverP [d] L) : Value) := slot ((hd 12 _ 35 rfl rfl rfl).val rfl)
      have e38 : ac.tmps[38]?.getD undef = (.bool (neverP [d] L) : Value) := slot ((hd 15 _ 38 rfl rfl rfl).val rfl)
      refine yes (want_g rfl rfl ((hd 8 _ 31 rfl rfl rfl).val rfl)) ?_
      have hv := hid (hK (.bool false) w1 (PrV.is rfl rfl) (Below.refl _ _))
      generalize neverP [d] L = zz at *
      cases zz
      all_goals
        go_simp
        exact kq hv.out rfl
    · intro ac w1 hR hd hk Kx hK
      exact yes (want_n rfl) (wp_pick _ _ _ rfl false _ ((hd 8 _ 31 rfl rfl rfl).val rfl) ((hd 16 _ 39 rfl rfl rfl).val rfl) (hK _ w1 (PrV.is rfl rfl) (Below.refl _ _)))
  · intro ac w1 hdf hsz hkp hval hRw
    obtain ⟨ff, hf⟩ : ∃ ff, ff = fun d => ac.tmps.getD d undef := ⟨_, rfl⟩
    have h40 : ff 40 = .bool false := by rw [hf]; exact (hval 17 _ 40 rfl rfl).val rfl
    have hfa := act_filled hdf hsz hkp
    rw [← hf] at hfa
    rw [hfa]
    clear hdf hsz hkp hval hfa hf
    clear ac
    simp only [fillAll, List.set_cons_zero, List.set_cons_succ]
    exact hQ.out _ _ _ _ _ _ _ _ _ _ _ _ _ _ _ _ _ _ w1 hRw h40
end Go.Proofs.Ytphkdjacladcpaa
