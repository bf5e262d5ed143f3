/- The document's one record. -/
import Derived.Test.YtcbgnodmamcmkaaRefP
import Derived.Test.YtcbgnodmamcmkaaDraw2
import Derived.Test.YtcbgnodmamcmkaaVals
import Derived.Deep.RegionHeld
import Derived.Deep.DeepCutAuto
namespace Go.Proofs.Ytcbgnodmamcmkaa
open Go.RowKit

theorem kind_get (l : List UInt8) (h : 12 < l.length) : kindAt l 0 = l[12] := by
  unfold kindAt
  rw [show ((l.drop (0 + 12)).take 1) = [l[12]] by
    rw [List.drop_eq_getElem_cons (by omega)]; rfl]
  simp [numOf]

theorem own_set3 {w : World} {base g : Nat} {v x0 y0 z0 : Value} {l : List UInt8} (h : Own w base v l) (hg : RBlk w g x0 y0 z0) (x y z : Value) : Own (((w.setCell ⟨g, 0, none⟩ x).setCell ⟨g, 1, none⟩ y).setCell ⟨g, 2, none⟩ z) base v l := by
  have K : Kp (fun k => k = g) w (((w.setCell ⟨g, 0, none⟩ x).setCell ⟨g, 1, none⟩ y).setCell ⟨g, 2, none⟩ z) := Kp.setCell (S := fun k => k = g) (p := ⟨g, 2, none⟩) (Kp.setCell (S := fun k => k = g) (p := ⟨g, 1, none⟩) (Kp.setCell (S := fun k => k = g) (p := ⟨g, 0, none⟩) (Kp.refl _ _) rfl _) rfl _) rfl _
  refine owns_kp h K fun k hk e => ?_
  subst e
  rcases h.2 with ⟨hv, _⟩ | ⟨g', cap, cur, hv, hb, hgg, _⟩
  · rw [hv] at hk; cases hk
  · rw [hv] at hk
    have e : g' = k := Option.some.inj hk
    subst e
    unfold RBlk at hg
    rw [hg] at hgg
    injection hgg with h1
    injection h1 with h2 h3 h4
    cases h3

/-- What the operations of region 8 leave. -/
def pr8 (b o len cap S N : Nat) (kk : UInt8) (ba : Option Addr) (bc : Nat) (EN : List UInt8) (DB : Bool) (k : Nat) (v : Value) (W : World) : Prop :=
  if k = 1 then ∃ ad c, v = .slice ad (S + 8) c ∧ At W ad EN
  else v = ([.agg #[.int .i64 (N : Int), .int .u8 (kk.toNat : Int), .slice ba (S - 9) bc], undef, .slice (some ⟨b, o, none⟩) len cap, .int .u64 (S : Int), .int .i64 (S : Int), .int .i64 ((S : Int) + 8), .slice (some ⟨b, o, none⟩) (S + 8) cap, .bool DB, .bool (!DB)] : List Value).getD k undef

theorem pr8_on (b o len cap S N : Nat) (kk : UInt8) (ba : Option Addr) (bc : Nat) (EN : List UInt8) (DB : Bool) : ∀ i v w w', pr8 b o len cap S N kk ba bc EN DB i v w → Below w.heap.size w w' → pr8 b o len cap S N kk ba bc EN DB i v w' := by
  intro i v w w' h hb
  unfold pr8 at *
  split
  · rename_i e
    rw [if_pos e] at h
    obtain ⟨ad, c, h1, h2⟩ := h
    exact ⟨ad, c, h1, h2.below hb⟩
  · rename_i e
    rw [if_neg e] at h
    exact h

/-- What the operations of region 7 leave. -/
def pr7 (b o len cap S N : Nat) (kk : UInt8) (bd : List UInt8) (base : Nat) (k : Nat) (v : Value) (W : World) : Prop :=
  if k = 10 then ∃ ba bc, v = .slice ba (S - 9) bc ∧ Own W base v bd
  else if k = 11 then ∃ ba bc, v = .agg #[.int .i64 (N : Int), .int .u8 (kk.toNat : Int), .slice ba (S - 9) bc] ∧ Own W base (.slice ba (S - 9) bc) bd
  else if k = 12 then ∃ g, v = .pointer (some ⟨g, 0, none⟩) ∧ base ≤ g ∧ RBlk W g (.int .i64 0) (.int .u8 0) (.slice none 0 0)
  else v = ([.int .u64 (N : Int), .int .i64 (N : Int), .slice (some ⟨b, o, none⟩) len cap, .pointer (some ⟨b, o + 12, none⟩), .int .u8 (kk.toNat : Int), .slice (some ⟨b, o, none⟩) len cap, .int .u64 (S : Int), .int .i64 (S : Int), .int .i64 (4 + (S : Int)), .slice (some ⟨b, o + 13, none⟩) (4 + S - 13) (cap - 13)] : List Value).getD k undef

theorem pr7_on (b o len cap S N : Nat) (kk : UInt8) (bd : List UInt8) (base : Nat) : ∀ i v w w', pr7 b o len cap S N kk bd base i v w → Below w.heap.size w w' → pr7 b o len cap S N kk bd base i v w' := by
  intro i v w w' h hb
  unfold pr7 at *
  split
  · rename_i e
    rw [if_pos e] at h
    obtain ⟨ba, bc, h1, h2⟩ := h
    exact ⟨ba, bc, h1, h2.below hb⟩
  · rename_i e
    rw [if_neg e] at h
    split
    · rename_i e
      rw [if_pos e] at h
      obtain ⟨ba, bc, h1, h2⟩ := h
      exact ⟨ba, bc, h1, h2.below hb⟩
    · rename_i e
      rw [if_neg e] at h
      split
      · rename_i e
        rw [if_pos e] at h
        obtain ⟨g, h1, h2, h3⟩ := h
        exact ⟨g, h1, h2, h3.below hb⟩
      · rename_i e
        rw [if_neg e] at h
        exact h

/-- What is told of the record that begins l. -/
def OneIs (l : List UInt8) (mb : Nat) (w : World) (e : Ending) (w' : World) : Prop :=
  (EntAt l 0 mb ∧ (∃ ba bc, e = .returned (.tuple #[.agg #[.int .i64 (numAt l 0 : Int), .int .u8 ((kindAt l 0).toNat : Int), .slice ba (sizeAt l 0 - 9) bc], .int .i64 ((sizeAt l 0 : Int) + 8)]) ∧ Own w' w.heap.size (.slice ba (sizeAt l 0 - 9) bc) (bodyAt l 0)) ∧ Below w.heap.size w w') ∨
  (¬ EntAt l 0 mb ∧ e = .returned (.tuple #[.agg #[.int .i64 0, .int .u8 0, .slice none 0 0], .int .i64 0]) ∧ Below w.heap.size w w')

set_option maxRecDepth 100000 in
set_option maxHeartbeats 4000000 in
theorem refone_main (b o len cap mb : Nat) (l : List UInt8) (w : World) (hl : l.length = len) (hlen : len ≤ 140737488355328) (hcap : len ≤ cap) (hmb : mb ≤ 1000000) (hat : At w (some ⟨b, o, none⟩) l) (h : HeadOk l mb)
    (hc : ∀ i (h : i < l.length), w.cell? ⟨b, o + i, none⟩ = some (.int .u8 (l[i].toNat : Int))) :
    Calls Try.prog 65 #[.slice (some ⟨b, o, none⟩) len cap, .int .i64 (mb : Int)] w fun e w' => OneIs l mb w e w' := by
  have bb := below_lit w (.cells #[.int .i64 0, .int .u8 0, .slice none 0 0] 27)
  have hB := RBlk.new w (.int .i64 0) (.int .u8 0) (.slice none 0 0)
  have y0 := hB.cell0
  have y1 := hB.cell1
  have y2 := hB.cell2
  have f0 := hB.free 0
  have f1 := hB.free 1
  have f2 := hB.free 2
  have hdec := ent_bytes h (by omega)
  obtain ⟨h4, h9, hm, h8, hN⟩ := h
  obtain ⟨e1, e2⟩ : rdV l 0 4 = (sizeAt l 0 : Int) ∧ rdB l 0 4 = true := ⟨by unfold rdV; rw [if_pos (by omega)]; rfl, by unfold rdB; exact decide_eq_true (by omega)⟩
  obtain ⟨g1, g2⟩ : rdV l 4 8 = (numAt l 0 : Int) ∧ rdB l 4 8 = true := ⟨by unfold rdV; rw [if_pos (by omega)]; rfl, by unfold rdB; exact decide_eq_true (by omega)⟩
  have ck := hc 12 (by omega)
  have hk12 := kind_get l (by omega)
  rw [← hk12] at ck
  have hlb : (bodyAt l 0).length = sizeAt l 0 - 9 := body_len l 0 h9 (by omega)
  have hwb := (At.window hc 13 (sizeAt l 0 - 9))
  rw [show (l.drop 13).take (sizeAt l 0 - 9) = bodyAt l 0 from rfl] at hwb
  have hwt := (At.window hc 0 (sizeAt l 0 + 8))
  rw [List.drop_zero, Nat.add_zero] at hwt
  have hlt : (l.take (sizeAt l 0 + 8)).length = sizeAt l 0 + 8 := by rw [List.length_take]; omega
  have hel : (entB (numAt l 0) (kindAt l 0) (bodyAt l 0)).length = sizeAt l 0 + 8 := by rw [entB_len, hlb]; omega
  have hgoal : Calls Try.prog 65 #[.slice (some ⟨b, o, none⟩) len cap, .int .i64 (mb : Int)] w fun e w' => ∃ B : Bool, B = decide (entB (numAt l 0) (kindAt l 0) (bodyAt l 0) = l.take (sizeAt l 0 + 8)) ∧ Below w.heap.size w w' ∧
      (B = true → ∃ ba bc, e = .returned (.tuple #[.agg #[.int .i64 (numAt l 0 : Int), .int .u8 ((kindAt l 0).toNat : Int), .slice ba (sizeAt l 0 - 9) bc], .int .i64 ((sizeAt l 0 : Int) + 8)]) ∧ Own w' w.heap.size (.slice ba (sizeAt l 0 - 9) bc) (bodyAt l 0)) ∧
      (B = false → e = .returned (.tuple #[.agg #[.int .i64 0, .int .u8 0, .slice none 0 0], .int .i64 0])) := by
    clear hdec
    obtain ⟨S, hS⟩ : ∃ S, S = sizeAt l 0 := ⟨_, rfl⟩
    obtain ⟨N, hN2⟩ : ∃ N, N = numAt l 0 := ⟨_, rfl⟩
    obtain ⟨kk, hkk⟩ : ∃ kk, kk = kindAt l 0 := ⟨_, rfl⟩
    obtain ⟨bd, hbd⟩ : ∃ bd, bd = bodyAt l 0 := ⟨_, rfl⟩
    rw [← hS] at e1 h9 hm h8 hlb hwt hlt hel
    rw [← hN2] at g1 hN hel
    rw [← hkk] at ck hel
    rw [← hbd] at hlb hwb hel
    rw [← hS, ← hN2, ← hkk, ← hbd]
    obtain ⟨DB, hDB⟩ : ∃ DB, DB = decide (entB N kk bd = l.take (S + 8)) := ⟨_, rfl⟩
    rw [← hDB]
    have hS32 : S < 4294967296 := by omega
    have hw8 := wrap_size S hS32
    have hwS : IntKind.i64.wrap (S : Int) = (S : Int) := by rw [IntKind.wrap_i64]; omega
    have hwN : IntKind.i64.wrap (N : Int) = (N : Int) := by rw [IntKind.wrap_i64]; omega
    have hd1 : decide ((S : Int) < 9) = false := decide_eq_false (by omega)
    have hd2 : decide (9 + (mb : Int) < (S : Int)) = false := decide_eq_false (by omega)
    have hd3 : decide ((len : Int) < (S : Int) + 8) = false := decide_eq_false (by omega)
    have hd4 : decide (4611686018427387904 < (N : Int)) = false := decide_eq_false (by omega)
    have hk8 := kk.toNat_lt
    have ck0 := cell_b bb ck
    have h12 : 12 < len := by omega
    replace hS := hid hS
    replace hN2 := hid hN2
    replace hkk := hid hkk
    replace hbd := hid hbd
    replace hk12 := hid hk12
    replace hlb := hid hlb
    replace hDB := hid hDB
    replace hlt := hid hlt
    replace hel := hid hel
    have hSl : S + 8 ≤ len := by omega
    go_enter Try.func65, Try.ntmps65
    go_wp2_with fail
    refine (refnum_any (some ⟨b, o, none⟩) cap len l 0 4 _ hl (by omega) (by omega) (by omega) (hat.below bb)).mono ?_
    rintro e w1 ⟨rfl, rfl⟩
    rw [e1, e2]
    go_wp2_with fail
    refine (refnum_any (some ⟨b, o, none⟩) cap len l 4 8 _ hl (by omega) (by omega) (by omega) (hat.below bb)).mono ?_
    rintro e w1 ⟨rfl, rfl⟩
    rw [g1, g2]
    replace hl := hid hl
    have hB1 := hid hB
    have hat1 := hid (hat.below bb)
    have hwb1 := hid (hwb.below bb)
    have hwt1 := hid (hwt.below bb)
    generalize hw1 : w.alloc (.cells #[.int .i64 0, .int .u8 0, .slice none 0 0] 27) = w1 at *
    clear hw1 y0 y1 y2 f0 f1 f2 hB hat hwb hwt hc ck
    have hS12 := hid (fun w' (h : Below w1.heap.size w1 w') => cell_b h ck0)
    have kC := hid (fun w' (h : Below w1.heap.size w1 w') => copy_any (some ⟨b, o + 13, none⟩) (cap - 13) (4 + S - 13) bd w' (by rw [hlb.out]; omega) (by omega) (hwb1.out.below h))
    have hi12 : (12 : Int) < (len : Int) := by omega
    have hw4 : IntKind.i64.wrap (4 + (S : Int)) = 4 + (S : Int) := by rw [IntKind.wrap_i64]; omega
    have hs1 : (0 : Int) ≤ 4 + (S : Int) := by omega
    have hs2 : 4 + (S : Int) ≤ (cap : Int) := by omega
    have hs3 : (13 : Int) ≤ 4 + (S : Int) := by omega
    have hs4 : ¬ cap = 13 := by omega
    have hs5 : (4 + (S : Int)).toNat = 4 + S := by omega
    have hcz := hs4
    go_upto_region 7 with fail
    go_cut [10] (fun s10 wx => ∃ g ba bc, s10 = .pointer (some ⟨g, 0, none⟩) ∧ Hid (RBlk wx g (.int .i64 (N : Int)) (.int .u8 (kk.toNat : Int)) (.slice ba (S - 9) bc) ∧ Own wx w1.heap.size (.slice ba (S - 9) bc) bd) ∧ Below w1.heap.size w1 wx)
    case first =>
      refine wp_region_front 13 (Rel := fun w w' => Below w.heap.size w w') (Pr := pr7 b o len cap S N kk bd w1.heap.size) (by kernel_rfl) (by kernel_rfl) (drew_below _) bel_tr (pr7_on _ _ _ _ _ _ _ _ _) ?_ (by kernel_rfl) ?_
      · refine ⟨?_, ?_, ?_, ?_, ?_, ?_, ?_, ?_, ?_, ?_, ?_, ?_, ?_, trivial⟩
        · exact fun a w hR hd hk K hK => yes (want_n rfl) (wp_mv _ rfl _ (get_keep (hk 8 (no_dst (by kernel_rfl))) rfl) (hK _ w rfl (Below.refl _ _)))
        · intro a w2 hR hd hk K hK
          have h1 := slot (hd 0 _ 46 rfl rfl rfl)
          clear hd hk hR
          go_simp
          exact hK _ _ rfl (Below.refl _ _)
        · exact fun a w hR hd hk K hK => yes (want_n rfl) (wp_mv _ rfl _ (get_keep (hk 0 (no_dst (by kernel_rfl))) rfl) (hK _ w rfl (Below.refl _ _)))
        · intro a w2 hR hd hk K hK
          have h1 := slot (hd 2 _ 48 rfl rfl rfl)
          clear hd hk hR
          go_simp
          exact hK _ _ rfl (Below.refl _ _)
        · intro a w2 hR hd hk K hK
          have h1 := slot (hd 3 _ 49 rfl rfl rfl)
          have h2 := hS12.out w2 hR
          clear hd hk hR
          go_simp
          exact hK _ _ rfl (Below.refl _ _)
        · exact fun a w hR hd hk K hK => yes (want_n rfl) (wp_mv _ rfl _ (get_keep (hk 0 (no_dst (by kernel_rfl))) rfl) (hK _ w rfl (Below.refl _ _)))
        · exact fun a w hR hd hk K hK => yes (want_n rfl) (wp_mv _ rfl _ (get_keep (hk 6 (no_dst (by kernel_rfl))) rfl) (hK _ w rfl (Below.refl _ _)))
        · intro a w2 hR hd hk K hK
          have h1 := slot (hd 6 _ 52 rfl rfl rfl)
          clear hd hk hR
          go_simp
          exact hK _ _ rfl (Below.refl _ _)
        · intro a w2 hR hd hk K hK
          have h1 := slot (hd 7 _ 53 rfl rfl rfl)
          clear hd hk hR
          go_simp
          exact hK _ _ rfl (Below.refl _ _)
        · intro a w2 hR hd hk K hK
          have h1 := slot (hd 5 _ 51 rfl rfl rfl)
          have h2 := slot (hd 8 _ 54 rfl rfl rfl)
          clear hd hk hR
          go_simp
          exact hK _ _ rfl (Below.refl _ _)
        · intro a w2 hR hd hk K hK
          refine step_call rfl 63 _ _ rfl _ Try.func63 rfl rfl #[.slice (some ⟨b, o + 13, none⟩) (4 + S - 13) (cap - 13)] (args1 (hd 9 _ 55 rfl rfl rfl)) (kC.out w2 hR) ?_
          rintro e w3 ⟨v, rfl, o3, hb3⟩
          refine ⟨v, rfl, hK _ _ ?_ hb3⟩
          obtain ⟨ba, bc, hv, _, _⟩ := o3.form
          rw [hlb.out] at hv
          exact ⟨ba, bc, hv, o3.le hR.size⟩
        · intro a w2 hR hd hk K hK
          have h1 := slot (hd 1 _ 47 rfl rfl rfl)
          have h2 := slot (hd 4 _ 50 rfl rfl rfl)
          obtain ⟨ba, bc, hv, ho⟩ := hd 10 _ 56 rfl rfl rfl
          have h3 := slot hv
          rw [hv] at ho
          replace ho := hid ho
          clear hd hk hR hv
          go_simp
          exact hK _ _ ⟨ba, bc, rfl, ho.out⟩ (Below.refl _ _)
        · intro a w2 hR hd hk K hK
          have hB2 := hid (RBlk.new w2 (.int .i64 0) (.int .u8 0) (.slice none 0 0))
          have bl := hid (below_lit w2 (.cells #[.int .i64 0, .int .u8 0, .slice none 0 0] 27))
          have hz := hR.size
          clear hd hk hR
          go_simp
          exact hK _ _ ⟨_, rfl, hz, hB2.out⟩ bl.out
      · intro a w9 hdf hsz hkp hval hR9
        obtain ⟨f, hf⟩ : ∃ f, f = fun d => a.tmps.getD d undef := ⟨_, rfl⟩
        obtain ⟨ba, bc, h57, ho⟩ : ∃ ba bc, f 57 = .agg #[.int .i64 (N : Int), .int .u8 (kk.toNat : Int), .slice ba (S - 9) bc] ∧ Own w9 w1.heap.size (.slice ba (S - 9) bc) bd := by rw [hf]; exact hval 11 _ 57 rfl rfl
        obtain ⟨g, h10, hg, hB9⟩ : ∃ g, f 10 = .pointer (some ⟨g, 0, none⟩) ∧ w1.heap.size ≤ g ∧ RBlk w9 g (.int .i64 0) (.int .u8 0) (.slice none 0 0) := by rw [hf]; exact hval 12 _ 10 rfl rfl
        have hfa := act_filled hdf hsz hkp
        rw [← hf] at hfa
        rw [hfa]
        clear hdf hsz hkp hval hfa hf
        clear a
        simp only [List.take, fillAll, List.set_cons_zero, List.set_cons_succ, h57, h10]
        have z0 := hB9.cell0
        have z1 := hB9.cell1
        have z2 := hB9.cell2
        have u0 := hB9.free 0
        have u1 := hB9.free 1
        have u2 := hB9.free 2
        have hfinal := hid (show RBlk (((w9.setCell ⟨g, 0, none⟩ (.int .i64 (N : Int))).setCell ⟨g, 1, none⟩ (.int .u8 (kk.toNat : Int))).setCell ⟨g, 2, none⟩ (.slice ba (S - 9) bc)) g (.int .i64 (N : Int)) (.int .u8 (kk.toNat : Int)) (.slice ba (S - 9) bc) ∧ Own (((w9.setCell ⟨g, 0, none⟩ (.int .i64 (N : Int))).setCell ⟨g, 1, none⟩ (.int .u8 (kk.toNat : Int))).setCell ⟨g, 2, none⟩ (.slice ba (S - 9) bc)) w1.heap.size (.slice ba (S - 9) bc) bd from ⟨hB9.set _ _ _, own_set3 ho hB9 _ _ _⟩)
        have hbf := hid (show Below w1.heap.size w1 (((w9.setCell ⟨g, 0, none⟩ (.int .i64 (N : Int))).setCell ⟨g, 1, none⟩ (.int .u8 (kk.toNat : Int))).setCell ⟨g, 2, none⟩ (.slice ba (S - 9) bc)) from ((hR9.setCell (p := ⟨g, 0, none⟩) hg _).setCell (p := ⟨g, 1, none⟩) hg _).setCell (p := ⟨g, 2, none⟩) hg _)
        clear ho hB9 hR9 h57 h10 kC hS12
        change wpAny Try.prog .any _ _ (0 + 1) _ _ _
        refine wpAny_ready (rs := [13]) (by kernel_rfl) (by simp) ?_
        refine AllReady.cons rfl (fun K hK => ?_) AllReady.nil
        go_simp
        refine hK _ _ ?_
        clear hK K
        refine wpAny_done (by kernel_rfl) ?_ _
        go_wp2_with fail
        go_meet
        exact ⟨g, ba, bc, rfl, hfinal, hbf.out⟩
    case rest =>
      obtain ⟨g, ba, bc, rfl, hh, hbx⟩ := hcut
      obtain ⟨hG, hO⟩ := hh.out
      clear hh kC hS12 hcz
      have kT := hid (fun w' (h : Below wc.heap.size wc w') => refbytes_any N kk ba (S - 9) bc bd w' hN hlb.out (by omega) ((hO.at).below h))
      have hwt2 := hid (hwt1.out.below hbx)
      have kS := hid (fun w' (h : Below wc.heap.size wc w') ad c (ha : At w' ad (entB N kk bd)) => same_dec ad (some ⟨b, o, none⟩) (S + 8) (S + 8) c cap (entB N kk bd) (l.take (S + 8)) w' hel.out hlt.out ha (hwt2.out.below h))
      rw [← hDB.out] at kS
      have hB2 := hid (hB1.out.below hbx)
      have hw8i : IntKind.i64.wrap ((S : Int) + 8) = (S : Int) + 8 := by rw [IntKind.wrap_i64]; omega
      have ht1 : (0 : Int) ≤ (S : Int) + 8 := by omega
      have ht2 : (S : Int) + 8 ≤ (cap : Int) := by omega
      have ht3 : ¬ cap = 0 := by omega
      have ht4 : ((S : Int) + 8).toNat = S + 8 := by omega
      replace hG := hid hG
      replace hO := hid hO
      generalize entB N kk bd = EN at *
      clear hi12 hw4 hs1 hs2 hs3 hs4 hs5
      go_upto_region 8 with fail
      go_cut [66] (fun s66 wx => s66 = .bool (!DB) ∧ Below wc.heap.size wc wx)
      case first =>
        refine wp_region_drawn (Rel := fun w w' => Below w.heap.size w w') (Pr := pr8 b o len cap S N kk ba bc EN DB) (by kernel_rfl) (by kernel_rfl) (drew_below _) bel_tr (pr8_on _ _ _ _ _ _ _ _ _ _ _) ?_ ?_
        · refine ⟨?_, ?_, ?_, ?_, ?_, ?_, ?_, ?_, ?_, trivial⟩
          · intro a w2 hR hd hk K hK
            have h1 := slot (get_keep (hk 10 (no_dst (by kernel_rfl))) rfl)
            have h2 := (hG.out.below hR).cell0
            have h3 := (hG.out.below hR).cell1
            have h4 := (hG.out.below hR).cell2
            clear hd hk hR
            go_simp
            exact hK _ _ rfl (Below.refl _ _)
          · intro a w2 hR hd hk K hK
            refine step_call rfl 64 _ _ rfl _ Try.func64 rfl rfl #[.agg #[.int .i64 (N : Int), .int .u8 (kk.toNat : Int), .slice ba (S - 9) bc]] (args1 (hd 0 _ 58 rfl rfl rfl)) (kT.out w2 hR) ?_
            rintro e w3 ⟨v, rfl, o3, hb3⟩
            refine ⟨v, rfl, hK _ _ ?_ hb3⟩
            obtain ⟨ad, c3, hv, _, hat3⟩ := o3.form
            rw [hel.out] at hv
            exact ⟨ad, c3, hv, hat3⟩
          · exact fun a w hR hd hk K hK => yes (want_n rfl) (wp_mv _ rfl _ (get_keep (hk 0 (no_dst (by kernel_rfl))) rfl) (hK _ w rfl (Below.refl _ _)))
          · exact fun a w hR hd hk K hK => yes (want_n rfl) (wp_mv _ rfl _ (get_keep (hk 6 (no_dst (by kernel_rfl))) rfl) (hK _ w rfl (Below.refl _ _)))
          · intro a w2 hR hd hk K hK
            have h1 := slot (hd 3 _ 61 rfl rfl rfl)
            clear hd hk hR
            go_simp
            exact hK _ _ rfl (Below.refl _ _)
          · intro a w2 hR hd hk K hK
            have h1 := slot (hd 4 _ 62 rfl rfl rfl)
            clear hd hk hR
            go_simp
            exact hK _ _ rfl (Below.refl _ _)
          · intro a w2 hR hd hk K hK
            have h1 := slot (hd 2 _ 60 rfl rfl rfl)
            have h2 := slot (hd 5 _ 63 rfl rfl rfl)
            clear hd hk hR
            go_simp
            exact hK _ _ rfl (Below.refl _ _)
          · intro a w2 hR hd hk K hK
            obtain ⟨ad, c3, hv, hat3⟩ := hd 1 _ 59 rfl rfl rfl
            refine step_call rfl 10 _ _ rfl _ Try.func10 rfl rfl #[.slice ad (S + 8) c3, .slice (some ⟨b, o, none⟩) (S + 8) cap] (args2 hv (hd 6 _ 64 rfl rfl rfl)) (kS.out w2 hR ad c3 hat3) ?_
            rintro e w3 ⟨rfl, rfl⟩
            exact ⟨_, rfl, hK _ _ rfl (Below.refl _ _)⟩
          · intro a w2 hR hd hk K hK
            have h1 := slot (hd 7 _ 65 rfl rfl rfl)
            clear hd hk hR
            go_simp
            exact hK _ _ rfl (Below.refl _ _)
        · intro a w9 hdf hsz hkp hval hR9
          obtain ⟨f, hf⟩ : ∃ f, f = fun d => a.tmps.getD d undef := ⟨_, rfl⟩
          have h66 : f 66 = .bool (!DB) := by rw [hf]; exact hval 8 _ 66 rfl rfl
          have hfa := act_filled hdf hsz hkp
          rw [← hf] at hfa
          rw [hfa]
          clear hdf hsz hkp hval hfa hf
          clear a
          simp only [fillAll, List.set_cons_zero, List.set_cons_succ, h66]
          clear h66 kT kS
          go_wp2_with fail
          go_meet
          exact ⟨rfl, hR9⟩
      case rest =>
        obtain ⟨rfl, hby⟩ := hcut
        clear kT kS
        have hG3 := hid (hG.out.below hby)
        have hB3 := hid (hB2.out.below hby)
        have hO3 := hid (hO.out.below hby)
        have q0 := hG3.out.cell0
        have q1 := hG3.out.cell1
        have q2 := hG3.out.cell2
        have y0 := hB3.out.cell0
        have y1 := hB3.out.cell1
        have y2 := hB3.out.cell2
        have f0 := hB3.out.free 0
        have f1 := hB3.out.free 1
        have f2 := hB3.out.free 2
        have bBB := hid (bnext (bnext bb hbx) hby)
        clear ht1 ht2 ht3 ht4
        cases DB with
        | true =>
          go_wp2
          (try simp only [Exit.inBlock, Exit.then])
          refine bodyPost_ret (results_rec2 rfl _ _ w.heap.size (.int .i64 (N : Int)) (.int .u8 (kk.toNat : Int)) (.slice ba (S - 9) bc) rfl (hB3.out.set _ _ _)) rfl ?_
          refine ⟨true, rfl, ((bBB.out.setCell (p := ⟨w.heap.size, 0, none⟩) (Nat.le_refl _) _).setCell (p := ⟨w.heap.size, 1, none⟩) (Nat.le_refl _) _).setCell (p := ⟨w.heap.size, 2, none⟩) (Nat.le_refl _) _, fun _ => ⟨ba, bc, rfl, (own_set3 hO3.out hB3.out _ _ _).le bb.size⟩, fun e => by cases e⟩
        | false =>
          go_wp2
          (try simp only [Exit.inBlock, Exit.then])
          refine bodyPost_ret (results_rec2 rfl _ _ w.heap.size (.int .i64 0) (.int .u8 0) (.slice none 0 0) rfl (by first | exact hB3.out | exact hB3.out.set _ _ _)) rfl ?_
          refine ⟨false, rfl, ?_, (fun e => by cases e), fun _ => rfl⟩
          first | exact bBB.out | exact ((bBB.out.setCell (p := ⟨w.heap.size, 0, none⟩) (Nat.le_refl _) _).setCell (p := ⟨w.heap.size, 1, none⟩) (Nat.le_refl _) _).setCell (p := ⟨w.heap.size, 2, none⟩) (Nat.le_refl _) _
  refine hgoal.mono ?_
  rintro e w' ⟨B, hBd, hb, ht, hf⟩
  by_cases hE : EntAt l 0 mb
  · have := decide_eq_true (hdec.1 hE)
    rw [this] at hBd
    exact .inl ⟨hE, ht hBd, hb⟩
  · have := decide_eq_false (fun h => hE (hdec.2 h))
    rw [this] at hBd
    exact .inr ⟨hE, hf hBd, hb⟩

theorem refone_any (a : Option Addr) (len cap mb : Nat) (l : List UInt8) (w : World) (hl : l.length = len) (hlen : len ≤ 140737488355328) (hcap : len ≤ cap) (hmb : mb ≤ 1000000) (hat : At w a l) :
    Calls Try.prog 65 #[.slice a len cap, .int .i64 (mb : Int)] w fun e w' => OneIs l mb w e w' := by
  by_cases h : HeadOk l mb
  · obtain ⟨b, o, e, hc⟩ := hat (by intro e; have := h.1; rw [e] at this; simp at this)
    subst e
    exact refone_main b o len cap mb l w hl hlen hcap hmb hat h hc
  · refine (refone_head a len cap mb l w hl hlen (by omega) hat h).mono ?_
    rintro e w' ⟨rfl, hb⟩
    exact .inr ⟨fun h2 => h (head_of_ent h2), rfl, hb⟩
end Go.Proofs.Ytcbgnodmamcmkaa
