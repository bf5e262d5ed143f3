/- The region of the law that copies a side to the other. -/
import Derived.Test.YtpngnmogjmdmhaaPvR
namespace Go.Proofs.Ytpngnmogjmdmhaa
open Go.RowKit
set_option linter.unusedVariables false

theorem LR.setD0 {w : World} {gd gl p q : Nat} {cy cu : Array Value} (h : LR w gd gl 0 p q cy cu) (p' : Nat) (hne : gd ≠ gl) : LR (w.setCell ⟨gd, 1, none⟩ (.pointer (some ⟨p', 0, none⟩))) gd gl 0 p p' cy cu := by
  have kc : Kp (fun b => b = gd) w (w.setCell ⟨gd, 1, none⟩ (.pointer (some ⟨p', 0, none⟩))) := Kp.setCell (S := fun b => b = gd) (Kp.refl _ _) (p := ⟨gd, 1, none⟩) rfl _
  refine ⟨by rw [World.cell?_setCell_other _ _ _ _ (by simp)]; exact h.d1, World.cell?_setCell_same _ _ _ h.d2, fun k => by rw [World.frozen?_setCell]; exact h.fz k, range_kp h.l1 kc (Ne.symm hne), range_kp h.l2 kc (Ne.symm hne), fun k => by rw [World.frozen?_setCell]; exact h.fl k, h.c1, h.c2⟩
theorem LR.setD1 {w : World} {gd gl p q : Nat} {cy cu : Array Value} (h : LR w gd gl 1 p q cy cu) (p' : Nat) (hne : gd ≠ gl) : LR (w.setCell ⟨gd, 0, none⟩ (.pointer (some ⟨p', 0, none⟩))) gd gl 1 p p' cy cu := by
  have kc : Kp (fun b => b = gd) w (w.setCell ⟨gd, 0, none⟩ (.pointer (some ⟨p', 0, none⟩))) := Kp.setCell (S := fun b => b = gd) (Kp.refl _ _) (p := ⟨gd, 0, none⟩) rfl _
  refine ⟨by rw [World.cell?_setCell_other _ _ _ _ (by simp)]; exact h.d1, World.cell?_setCell_same _ _ _ h.d2, fun k => by rw [World.frozen?_setCell]; exact h.fz k, range_kp h.l1 kc (Ne.symm hne), range_kp h.l2 kc (Ne.symm hne), fun k => by rw [World.frozen?_setCell]; exact h.fl k, h.c1, h.c2⟩
theorem LR.opp0 {w : World} {gd gl p q : Nat} {cy cu : Array Value} (h : LR w gd gl 0 p q cy cu) (cs : Array Value) (hc : cs.size = 8) (hne : gd ≠ gl) : LR (w.setCells gl 8 cs.toList) gd gl 0 p q cy cs := LR.flip (on := 1) (by decide) (LR.put1 (LR.flip (on := 0) (by decide) h) cs hc hne)
theorem LR.opp1 {w : World} {gd gl p q : Nat} {cy cu : Array Value} (h : LR w gd gl 1 p q cy cu) (cs : Array Value) (hc : cs.size = 8) (hne : gd ≠ gl) : LR (w.setCells gl 0 cs.toList) gd gl 1 p q cy cs := LR.flip (on := 0) (by decide) (LR.put0 (LR.flip (on := 1) (by decide) h) cs hc hne)

def W11 (base : Nat) (w : World) (gd gl on p q : Nat) (x : Dx) (d : Dsk) (cy cu : Array Value) (L : Nat → Bool) (V : Nat → Value) (w1 : World) : Prop :=
  Kp (fun k => k = gd ∨ k = gl) w w1 ∧ ∃ (p' : Nat) (x' : Dx), (L 7 = true → V 7 = .pointer (some ⟨p', 0, none⟩) ∧ Sole base w1 p' x' d ∧ (∀ k, Turn p' x' k → w.heap.size ≤ k) ∧ (∀ k, Reads x' k → Reads x k)) ∧
    LR w1 gd gl on p (if L 12 = true then p' else q) cy (if L 14 = true then cy else cu)
section
variable {base : Nat} {w : World} {gd gl on p q : Nat} {x : Dx} {d : Dsk} {cy cu : Array Value} {L L' : Nat → Bool} {V V' : Nat → Value} {w1 : World}
theorem W11.same (h : W11 base w gd gl on p q x d cy cu L V w1) (h7 : L' 7 = L 7) (h12 : L' 12 = L 12) (h14 : L' 14 = L 14) (v7 : V' 7 = V 7) : W11 base w gd gl on p q x d cy cu L' V' w1 := by
  unfold W11; rw [h7, h12, h14, v7]; exact h
theorem W11.mk (a : Kp (fun k => k = gd ∨ k = gl) w w1) {p' : Nat} {x' : Dx} (b : L 7 = true → V 7 = .pointer (some ⟨p', 0, none⟩) ∧ Sole base w1 p' x' d ∧ (∀ k, Turn p' x' k → w.heap.size ≤ k) ∧ (∀ k, Reads x' k → Reads x k))
    (c : LR w1 gd gl on p (if L 12 = true then p' else q) cy (if L 14 = true then cy else cu)) : W11 base w gd gl on p q x d cy cu L V w1 := ⟨a, p', x', b, c⟩
end

def pv11_0 (gd gl p : Nat) (cy : Array Value) : Nat → Value → Prop
  | 0, v => v = .int .i64 0
  | 1, v => v = .int .i64 1
  | 2, v => v = .int .i64 0
  | 3, v => v = .int .i64 1
  | 4, v => v = .int .i64 0
  | 5, v => v = .pointer (some ⟨gd, 0, none⟩)
  | 6, v => v = .pointer (some ⟨p, 0, none⟩)
  | 8, v => v = .int .i64 0
  | 9, v => v = .pointer (some ⟨gl, 0, none⟩)
  | 10, v => v = .agg cy
  | 11, v => v = .pointer (some ⟨gd, 1, none⟩)
  | 13, v => v = .pointer (some ⟨gl, 8, none⟩)
  | _, _ => True

set_option maxRecDepth 100000 in
set_option maxHeartbeats 4000000 in
theorem plays_r11_0 {FF : Act → World → Prop} {w : World} {base gd gl p q m g6 : Nat} {x z : Dx} {y u : RDx} {d e : Dsk} {cu : Array Value} {c0 c1 c2 c5 c8 c9 c10 c11 c12 c13 c14 c15 c16 c17 c18 c19 c20 c21 c22 c23 c24 c25 c26 c27 c28 c29 c30 c31 c32 c33 c34 c35 c36 c37 c38 c39 c40 c41 c42 c43 c44 c45 c46 c47 c48 c49 c50 c51 c52 c53 c54 c55 c56 c57 c58 c59 c60 c61 c62 c63 c64 c65 c66 c67 c68 c69 c70 c71 c72 c73 c74 c75 c76 c77 c78 c79 c80 c81 c82 c83 c84 c85 c86 c87 c88 c89 c90 c91 c92 c93 c94 c95 c96 c97 c98 c99 c100 c101 c102 c103 c104 c105 c106 c107 c108 c109 c110 c111 c112 : Value}
    (hPV : Hid (PV base w gd gl p q x z y u d e m)) (hLR : Hid (LR w gd gl 0 p q (y.cells d) cu)) (hbase : Hid (base ≤ w.heap.size)) (hfew : Hid (d.ops.length ≤ 1000000))
    (hQ : Hid (∀ (d47 d48 d49 d50 d51 d52 d53 d54 d55 d56 d57 d58 d59 : Value) (p' : Nat) (x' : Dx) (w' : World), PV base w' gd gl p p' x x' y y d d m → Kp (fun k => k = gd ∨ k = gl) w w' → LR w' gd gl 0 p p' (y.cells d) (y.cells d) → FF ⟨#[c0, c1, c2, .pointer (some ⟨gd, 0, none⟩), .pointer (some ⟨gl, 0, none⟩), c5, .pointer (some ⟨g6, 0, none⟩), .int .i64 0, c8, c9, c10, c11, c12, c13, c14, c15, c16, c17, c18, c19, c20, c21, c22, c23, c24, c25, c26, c27, c28, c29, c30, c31, c32, c33, c34, c35, c36, c37, c38, c39, c40, c41, c42, c43, c44, c45, c46, d47, d48, d49, d50, d51, d52, d53, d54, d55, d56, d57, d58, d59, c60, c61, c62, c63, c64, c65, c66, c67, c68, c69, c70, c71, c72, c73, c74, c75, c76, c77, c78, c79, c80, c81, c82, c83, c84, c85, c86, c87, c88, c89, c90, c91, c92, c93, c94, c95, c96, c97, c98, c99, c100, c101, c102, c103, c104, c105, c106, c107, c108, c109, c110, c111, c112], []⟩ w')) :
    Code.wp Try.prog ((Try.f4.body.bind (regAt 11)).getD .skip) (Nrm FF) ⟨#[c0, c1, c2, .pointer (some ⟨gd, 0, none⟩), .pointer (some ⟨gl, 0, none⟩), c5, .pointer (some ⟨g6, 0, none⟩), .int .i64 0, c8, c9, c10, c11, c12, c13, c14, c15, c16, c17, c18, c19, c20, c21, c22, c23, c24, c25, c26, c27, c28, c29, c30, c31, c32, c33, c34, c35, c36, c37, c38, c39, c40, c41, c42, c43, c44, c45, c46, c47, c48, c49, c50, c51, c52, c53, c54, c55, c56, c57, c58, c59, c60, c61, c62, c63, c64, c65, c66, c67, c68, c69, c70, c71, c72, c73, c74, c75, c76, c77, c78, c79, c80, c81, c82, c83, c84, c85, c86, c87, c88, c89, c90, c91, c92, c93, c94, c95, c96, c97, c98, c99, c100, c101, c102, c103, c104, c105, c106, c107, c108, c109, c110, c111, c112], []⟩ w := by
  conv => arg 2; whnf
  refine wp_region_alv (Wd := W11 base w gd gl 0 p q x d (y.cells d) cu) (Pv := pv11_0 gd gl p (y.cells d)) (by kernel_rfl) (by kernel_rfl) ?_ ?_ ?_
  · intro L V hL
    exact ⟨(Kp.of_below (S := fun _ => False) (drew_below w)).more (fun k e => e.elim), p, x, (fun h => by rw [hL 7] at h; cases h), by rw [hL 12, hL 14]; exact hLR.out.below (drew_below w)⟩
  · refine ⟨?_, ?_, ?_, ?_, ?_, ?_, ?_, ?_, ?_, ?_, ?_, ?_, ?_, ?_, ?_, trivial⟩
    · intro ac w1 L hL hup hcl hW hdd hk Kx hK
      refine yes (want_n rfl) (wp_mv _ rfl _ (get_keep (hk 7 (no_dst (by kernel_rfl))) rfl) ?_)
      exact hK _ _ (fun _ => rfl) (fun L' V' g1' g2' g3' g4' => hW.same (g2' 7 (by decide)) (g2' 12 (by decide)) (g2' 14 (by decide)) (g4' 7 (by decide)))
    · intro ac w1 L hL hup hcl hW hdd hk Kx hK
      have e47 : ac.tmps[47]?.getD undef = (.int .i64 0 : Value) := slot (hdd 0 _ 47 rfl rfl rfl)
      refine yes (want_n rfl) ?_
      have hv := hid (hK (.int .i64 1) w1 (fun _ => rfl) (fun L' V' g1' g2' g3' g4' => hW.same (g2' 7 (by decide)) (g2' 12 (by decide)) (g2' 14 (by decide)) (g4' 7 (by decide))))
      clear hK hW hL hup hdd hk hcl
      go_simp
      exact kq hv.out rfl
    · intro ac w1 L hL hup hcl hW hdd hk Kx hK
      refine yes (want_n rfl) (wp_mv _ rfl _ (get_keep (hk 7 (no_dst (by kernel_rfl))) rfl) ?_)
      exact hK _ _ (fun _ => rfl) (fun L' V' g1' g2' g3' g4' => hW.same (g2' 7 (by decide)) (g2' 12 (by decide)) (g2' 14 (by decide)) (g4' 7 (by decide)))
    · intro ac w1 L hL hup hcl hW hdd hk Kx hK
      have e49 : ac.tmps[49]?.getD undef = (.int .i64 0 : Value) := slot (hdd 2 _ 49 rfl rfl rfl)
      refine yes (want_n rfl) ?_
      have hv := hid (hK (.int .i64 1) w1 (fun _ => rfl) (fun L' V' g1' g2' g3' g4' => hW.same (g2' 7 (by decide)) (g2' 12 (by decide)) (g2' 14 (by decide)) (g4' 7 (by decide))))
      clear hK hW hL hup hdd hk hcl
      go_simp
      exact kq hv.out rfl
    · intro ac w1 L hL hup hcl hW hdd hk Kx hK
      refine yes (want_n rfl) (wp_mv _ rfl _ (get_keep (hk 7 (no_dst (by kernel_rfl))) rfl) ?_)
      exact hK _ _ (fun _ => rfl) (fun L' V' g1' g2' g3' g4' => hW.same (g2' 7 (by decide)) (g2' 12 (by decide)) (g2' 14 (by decide)) (g4' 7 (by decide)))
    · intro ac w1 L hL hup hcl hW hdd hk Kx hK
      have e3 : ac.tmps[3]?.getD undef = (.pointer (some ⟨gd, 0, none⟩) : Value) := slot (get_keep (hk 3 (no_dst (by kernel_rfl))) rfl)
      have e51 : ac.tmps[51]?.getD undef = (.int .i64 0 : Value) := slot (hdd 4 _ 51 rfl rfl rfl)
      refine yes (want_n rfl) ?_
      have hv := hid (hK (.pointer (some ⟨gd, 0, none⟩)) w1 (fun _ => rfl) (fun L' V' g1' g2' g3' g4' => hW.same (g2' 7 (by decide)) (g2' 12 (by decide)) (g2' 14 (by decide)) (g4' 7 (by decide))))
      clear hK hW hL hup hdd hk hcl
      go_simp
      exact kq hv.out rfl
    · intro ac w1 L hL hup hcl hW hdd hk Kx hK
      have e52 : ac.tmps[52]?.getD undef = (.pointer (some ⟨gd, 0, none⟩) : Value) := slot (hdd 5 _ 52 rfl rfl rfl)
      obtain ⟨hkp0, p', x', hq7, hlr⟩ := hW
      have x0 := hlr.d1
      have hW := W11.mk hkp0 hq7 hlr
      refine yes (want_n rfl) ?_
      have hv := hid (hK (.pointer (some ⟨p, 0, none⟩)) w1 (fun _ => rfl) (fun L' V' g1' g2' g3' g4' => hW.same (g2' 7 (by decide)) (g2' 12 (by decide)) (g2' 14 (by decide)) (g4' 7 (by decide))))
      clear hK hW hL hup hdd hk hcl hlr hq7
      go_simp
      exact kq hv.out rfl
    · intro ac w1 L hL hup hcl hW hdd hk Kx hK
      have h12 : L 12 = false := not_yet hcl 12 (j := 7) (by kernel_rfl) hL
      obtain ⟨hkp0, p0, x0, hq7, hlr⟩ := hW
      rw [h12] at hlr
      simp only [Bool.false_eq_true, if_false] at hlr
      have hs := hPV.out.s1.kp hkp0 (fun k h1 h2 => h2.elim (hPV.out.o1 k (.inl h1)).1 (hPV.out.o1 k (.inl h1)).2) (fun k h1 h2 => h2.elim (hPV.out.o1 k (.inr h1)).1 (hPV.out.o1 k (.inr h1)).2)
      refine yes (want_n rfl) ?_
      refine wp_callv 13 _ _ rfl _ Try.func13 rfl rfl _ (args1 (hdd 6 _ 53 rfl rfl rfl)) (copy_sole base p x d w1 hs (Nat.le_trans hbase.out hkp0.size) hfew.out) ?_
      rintro e w' ⟨p', x', rfl, hs', hap', ht', hr', hb'⟩
      exact ⟨_, rfl, hK _ w' (fun _ => trivial) (fun L' V' g1' g2' g3' g4' => ⟨hkp0.trans ((Kp.of_below (S := fun _ => False) hb').more (fun k e => e.elim)), p', x', (fun _ => ⟨g3' (by simp), hs', (fun k e => Nat.le_trans hkp0.size (ht' k e)), hr'⟩), by rw [g2' 12 (by decide), h12, g2' 14 (by decide)]; simp only [Bool.false_eq_true, if_false]; exact hlr.below hb'⟩)⟩
    · intro ac w1 L hL hup hcl hW hdd hk Kx hK
      refine yes (want_n rfl) (wp_mv _ rfl _ (get_keep (hk 7 (no_dst (by kernel_rfl))) rfl) ?_)
      exact hK _ _ (fun _ => rfl) (fun L' V' g1' g2' g3' g4' => hW.same (g2' 7 (by decide)) (g2' 12 (by decide)) (g2' 14 (by decide)) (g4' 7 (by decide)))
    · intro ac w1 L hL hup hcl hW hdd hk Kx hK
      have e4 : ac.tmps[4]?.getD undef = (.pointer (some ⟨gl, 0, none⟩) : Value) := slot (get_keep (hk 4 (no_dst (by kernel_rfl))) rfl)
      have e55 : ac.tmps[55]?.getD undef = (.int .i64 0 : Value) := slot (hdd 8 _ 55 rfl rfl rfl)
      refine yes (want_n rfl) ?_
      have hv := hid (hK (.pointer (some ⟨gl, 0, none⟩)) w1 (fun _ => rfl) (fun L' V' g1' g2' g3' g4' => hW.same (g2' 7 (by decide)) (g2' 12 (by decide)) (g2' 14 (by decide)) (g4' 7 (by decide))))
      clear hK hW hL hup hdd hk hcl
      go_simp
      exact kq hv.out rfl
    · intro ac w1 L hL hup hcl hW hdd hk Kx hK
      obtain ⟨hkp0, p', x', hq7, hlr⟩ := hW
      have hW := W11.mk hkp0 hq7 hlr
      refine yes (want_n rfl) ?_
      refine wp_load_mid 40 (.tmp 56) rfl gl 0 (hdd 9 _ 56 rfl rfl rfl) (y.cells d).toList _ hlr.l1 Try.underlying40 rfl (by rw [Array.length_toList]; exact info40s _ hlr.c1) ?_
      rw [Array.toArray_toList]
      exact hK _ _ (fun _ => rfl) (fun L' V' g1' g2' g3' g4' => hW.same (g2' 7 (by decide)) (g2' 12 (by decide)) (g2' 14 (by decide)) (g4' 7 (by decide)))
    · intro ac w1 L hL hup hcl hW hdd hk Kx hK
      have e3 : ac.tmps[3]?.getD undef = (.pointer (some ⟨gd, 0, none⟩) : Value) := slot (get_keep (hk 3 (no_dst (by kernel_rfl))) rfl)
      have e48 : ac.tmps[48]?.getD undef = (.int .i64 1 : Value) := slot (hdd 1 _ 48 rfl rfl rfl)
      refine yes (want_n rfl) ?_
      have hv := hid (hK (.pointer (some ⟨gd, 1, none⟩)) w1 (fun _ => rfl) (fun L' V' g1' g2' g3' g4' => hW.same (g2' 7 (by decide)) (g2' 12 (by decide)) (g2' 14 (by decide)) (g4' 7 (by decide))))
      clear hK hW hL hup hdd hk hcl
      go_simp
      exact kq hv.out rfl
    · intro ac w1 L hL hup hcl hW hdd hk Kx hK
      have h7 : L 7 = true := up_of hup (by kernel_rfl)
      obtain ⟨hkp0, p', x', hq7, hlr⟩ := hW
      obtain ⟨hv7, hs', ht', hr'⟩ := hq7 h7
      rw [hL] at hlr
      simp only [Bool.false_eq_true, if_false] at hlr
      have e54 : ac.tmps[54]?.getD undef = (.pointer (some ⟨p', 0, none⟩) : Value) := slot ((valAt_of (i := 7) rfl rfl).symm.trans hv7)
      have e58 : ac.tmps[58]?.getD undef = (.pointer (some ⟨gd, 1, none⟩) : Value) := slot (hdd 11 _ 58 rfl rfl rfl)
      have x1 := hlr.d2
      have x2 := hlr.fz 1
      simp only [Nat.sub_zero] at x1
      have lt1 := hPV.out.lt1
      have kc : Kp (fun b => b = gd) w1 (w1.setCell ⟨gd, 1, none⟩ (.pointer (some ⟨p', 0, none⟩))) := Kp.setCell (S := fun b => b = gd) (Kp.refl _ _) (p := ⟨gd, 1, none⟩) rfl _
      refine yes (want_n rfl) ?_
      have hv := hid (hK undef (w1.setCell ⟨gd, 1, none⟩ (.pointer (some ⟨p', 0, none⟩))) (fun h => absurd rfl h) (fun L' V' g1' g2' g3' g4' => ⟨hkp0.trans (kc.more (fun k e => .inl e)), p', x', (fun _ => ⟨(g4' 7 (by decide)).trans hv7, hs'.kp kc (fun k h e => by have := ht' k h; omega) (fun k h e => (hPV.out.o1 k (.inr (hr' k h))).1 e), ht', hr'⟩), by rw [g1', g2' 14 (by decide)]; simp only [if_true]; exact hlr.setD0 p' hPV.out.ne⟩))
      clear hK hL hup hdd hk hcl hlr hq7 hs' ht' hr' kc hkp0
      go_simp
      exact hv.out
    · intro ac w1 L hL hup hcl hW hdd hk Kx hK
      have e4 : ac.tmps[4]?.getD undef = (.pointer (some ⟨gl, 0, none⟩) : Value) := slot (get_keep (hk 4 (no_dst (by kernel_rfl))) rfl)
      have e50 : ac.tmps[50]?.getD undef = (.int .i64 1 : Value) := slot (hdd 3 _ 50 rfl rfl rfl)
      refine yes (want_n rfl) ?_
      have hv := hid (hK (.pointer (some ⟨gl, 8, none⟩)) w1 (fun _ => rfl) (fun L' V' g1' g2' g3' g4' => hW.same (g2' 7 (by decide)) (g2' 12 (by decide)) (g2' 14 (by decide)) (g4' 7 (by decide))))
      clear hK hW hL hup hdd hk hcl
      go_simp
      exact kq hv.out rfl
    · intro ac w1 L hL hup hcl hW hdd hk Kx hK
      obtain ⟨hkp0, p', x', hq7, hlr⟩ := hW
      rw [hL] at hlr
      simp only [Bool.false_eq_true, if_false] at hlr
      refine yes (want_n rfl) ?_
      refine wp_store_mid 40 (.tmp 59) (.tmp 57) rfl gl 8 (y.cells d) (hdd 13 _ 59 rfl rfl rfl) (hdd 10 _ 57 rfl rfl rfl) hlr.there.2 info40c (cells_all _ _) ?_
      have lt2 := hPV.out.lt2
      have kc := kp_setCells (fun b => b = gl) gl rfl (y.cells d).toList 8 w1
      exact hK _ _ (fun h => absurd rfl h) (fun L' V' g1' g2' g3' g4' => ⟨hkp0.trans (kc.more (fun k e => .inr e)), p', x', (fun h7 => ⟨(g4' 7 (by decide)).trans (hq7 ((g2' 7 (by decide)) ▸ h7)).1, (hq7 ((g2' 7 (by decide)) ▸ h7)).2.1.kp kc (fun k h e => by have := (hq7 ((g2' 7 (by decide)) ▸ h7)).2.2.1 k h; omega) (fun k h e => (hPV.out.o1 k (.inr ((hq7 ((g2' 7 (by decide)) ▸ h7)).2.2.2 k h))).2 e), (hq7 ((g2' 7 (by decide)) ▸ h7)).2.2⟩), by rw [g1', g2' 12 (by decide)]; simp only [if_true]; exact hlr.opp0 (y.cells d) rfl hPV.out.ne⟩)
  · intro ac w1 hdf hsz hkp hval hW
    obtain ⟨L, hall, hW⟩ := hW
    obtain ⟨hkp0, p', x', hq7, hlr⟩ := hW
    rw [hall 12 (by decide), hall 14 (by decide)] at hlr
    simp only [if_true] at hlr
    obtain ⟨hv7, hs', ht', hr'⟩ := hq7 (hall 7 (by decide))
    obtain ⟨ff, hf⟩ : ∃ ff, ff = fun d => ac.tmps.getD d undef := ⟨_, rfl⟩
    have hfa := act_filled hdf hsz hkp
    rw [← hf] at hfa
    rw [hfa]
    clear hdf hsz hkp hval hfa hf hv7 hq7
    clear ac
    simp only [fillAll, List.set_cons_zero, List.set_cons_succ]
    exact hQ.out _ _ _ _ _ _ _ _ _ _ _ _ _ p' x' w1 (hPV.out.copied hs' ht' hr' hkp0) hkp0 hlr

def pv11_1 (gd gl p : Nat) (cy : Array Value) : Nat → Value → Prop
  | 0, v => v = .int .i64 1
  | 1, v => v = .int .i64 0
  | 2, v => v = .int .i64 1
  | 3, v => v = .int .i64 0
  | 4, v => v = .int .i64 1
  | 5, v => v = .pointer (some ⟨gd, 1, none⟩)
  | 6, v => v = .pointer (some ⟨p, 0, none⟩)
  | 8, v => v = .int .i64 1
  | 9, v => v = .pointer (some ⟨gl, 8, none⟩)
  | 10, v => v = .agg cy
  | 11, v => v = .pointer (some ⟨gd, 0, none⟩)
  | 13, v => v = .pointer (some ⟨gl, 0, none⟩)
  | _, _ => True

set_option maxRecDepth 100000 in
set_option maxHeartbeats 4000000 in
theorem plays_r11_1 {FF : Act → World → Prop} {w : World} {base gd gl p q m g6 : Nat} {x z : Dx} {y u : RDx} {d e : Dsk} {cu : Array Value} {c0 c1 c2 c5 c8 c9 c10 c11 c12 c13 c14 c15 c16 c17 c18 c19 c20 c21 c22 c23 c24 c25 c26 c27 c28 c29 c30 c31 c32 c33 c34 c35 c36 c37 c38 c39 c40 c41 c42 c43 c44 c45 c46 c47 c48 c49 c50 c51 c52 c53 c54 c55 c56 c57 c58 c59 c60 c61 c62 c63 c64 c65 c66 c67 c68 c69 c70 c71 c72 c73 c74 c75 c76 c77 c78 c79 c80 c81 c82 c83 c84 c85 c86 c87 c88 c89 c90 c91 c92 c93 c94 c95 c96 c97 c98 c99 c100 c101 c102 c103 c104 c105 c106 c107 c108 c109 c110 c111 c112 : Value}
    (hPV : Hid (PV base w gd gl p q x z y u d e m)) (hLR : Hid (LR w gd gl 1 p q (y.cells d) cu)) (hbase : Hid (base ≤ w.heap.size)) (hfew : Hid (d.ops.length ≤ 1000000))
    (hQ : Hid (∀ (d47 d48 d49 d50 d51 d52 d53 d54 d55 d56 d57 d58 d59 : Value) (p' : Nat) (x' : Dx) (w' : World), PV base w' gd gl p p' x x' y y d d m → Kp (fun k => k = gd ∨ k = gl) w w' → LR w' gd gl 1 p p' (y.cells d) (y.cells d) → FF ⟨#[c0, c1, c2, .pointer (some ⟨gd, 0, none⟩), .pointer (some ⟨gl, 0, none⟩), c5, .pointer (some ⟨g6, 0, none⟩), .int .i64 1, c8, c9, c10, c11, c12, c13, c14, c15, c16, c17, c18, c19, c20, c21, c22, c23, c24, c25, c26, c27, c28, c29, c30, c31, c32, c33, c34, c35, c36, c37, c38, c39, c40, c41, c42, c43, c44, c45, c46, d47, d48, d49, d50, d51, d52, d53, d54, d55, d56, d57, d58, d59, c60, c61, c62, c63, c64, c65, c66, c67, c68, c69, c70, c71, c72, c73, c74, c75, c76, c77, c78, c79, c80, c81, c82, c83, c84, c85, c86, c87, c88, c89, c90, c91, c92, c93, c94, c95, c96, c97, c98, c99, c100, c101, c102, c103, c104, c105, c106, c107, c108, c109, c110, c111, c112], []⟩ w')) :
    Code.wp Try.prog ((Try.f4.body.bind (regAt 11)).getD .skip) (Nrm FF) ⟨#[c0, c1, c2, .pointer (some ⟨gd, 0, none⟩), .pointer (some ⟨gl, 0, none⟩), c5, .pointer (some ⟨g6, 0, none⟩), .int .i64 1, c8, c9, c10, c11, c12, c13, c14, c15, c16, c17, c18, c19, c20, c21, c22, c23, c24, c25, c26, c27, c28, c29, c30, c31, c32, c33, c34, c35, c36, c37, c38, c39, c40, c41, c42, c43, c44, c45, c46, c47, c48, c49, c50, c51, c52, c53, c54, c55, c56, c57, c58, c59, c60, c61, c62, c63, c64, c65, c66, c67, c68, c69, c70, c71, c72, c73, c74, c75, c76, c77, c78, c79, c80, c81, c82, c83, c84, c85, c86, c87, c88, c89, c90, c91, c92, c93, c94, c95, c96, c97, c98, c99, c100, c101, c102, c103, c104, c105, c106, c107, c108, c109, c110, c111, c112], []⟩ w := by
  conv => arg 2; whnf
  refine wp_region_alv (Wd := W11 base w gd gl 1 p q x d (y.cells d) cu) (Pv := pv11_1 gd gl p (y.cells d)) (by kernel_rfl) (by kernel_rfl) ?_ ?_ ?_
  · intro L V hL
    exact ⟨(Kp.of_below (S := fun _ => False) (drew_below w)).more (fun k e => e.elim), p, x, (fun h => by rw [hL 7] at h; cases h), by rw [hL 12, hL 14]; exact hLR.out.below (drew_below w)⟩
  · refine ⟨?_, ?_, ?_, ?_, ?_, ?_, ?_, ?_, ?_, ?_, ?_, ?_, ?_, ?_, ?_, trivial⟩
    · intro ac w1 L hL hup hcl hW hdd hk Kx hK
      refine yes (want_n rfl) (wp_mv _ rfl _ (get_keep (hk 7 (no_dst (by kernel_rfl))) rfl) ?_)
      exact hK _ _ (fun _ => rfl) (fun L' V' g1' g2' g3' g4' => hW.same (g2' 7 (by decide)) (g2' 12 (by decide)) (g2' 14 (by decide)) (g4' 7 (by decide)))
    · intro ac w1 L hL hup hcl hW hdd hk Kx hK
      have e47 : ac.tmps[47]?.getD undef = (.int .i64 1 : Value) := slot (hdd 0 _ 47 rfl rfl rfl)
      refine yes (want_n rfl) ?_
      have hv := hid (hK (.int .i64 0) w1 (fun _ => rfl) (fun L' V' g1' g2' g3' g4' => hW.same (g2' 7 (by decide)) (g2' 12 (by decide)) (g2' 14 (by decide)) (g4' 7 (by decide))))
      clear hK hW hL hup hdd hk hcl
      go_simp
      exact kq hv.out rfl
    · intro ac w1 L hL hup hcl hW hdd hk Kx hK
      refine yes (want_n rfl) (wp_mv _ rfl _ (get_keep (hk 7 (no_dst (by kernel_rfl))) rfl) ?_)
      exact hK _ _ (fun _ => rfl) (fun L' V' g1' g2' g3' g4' => hW.same (g2' 7 (by decide)) (g2' 12 (by decide)) (g2' 14 (by decide)) (g4' 7 (by decide)))
    · intro ac w1 L hL hup hcl hW hdd hk Kx hK
      have e49 : ac.tmps[49]?.getD undef = (.int .i64 1 : Value) := slot (hdd 2 _ 49 rfl rfl rfl)
      refine yes (want_n rfl) ?_
      have hv := hid (hK (.int .i64 0) w1 (fun _ => rfl) (fun L' V' g1' g2' g3' g4' => hW.same (g2' 7 (by decide)) (g2' 12 (by decide)) (g2' 14 (by decide)) (g4' 7 (by decide))))
      clear hK hW hL hup hdd hk hcl
      go_simp
      exact kq hv.out rfl
    · intro ac w1 L hL hup hcl hW hdd hk Kx hK
      refine yes (want_n rfl) (wp_mv _ rfl _ (get_keep (hk 7 (no_dst (by kernel_rfl))) rfl) ?_)
      exact hK _ _ (fun _ => rfl) (fun L' V' g1' g2' g3' g4' => hW.same (g2' 7 (by decide)) (g2' 12 (by decide)) (g2' 14 (by decide)) (g4' 7 (by decide)))
    · intro ac w1 L hL hup hcl hW hdd hk Kx hK
      have e3 : ac.tmps[3]?.getD undef = (.pointer (some ⟨gd, 0, none⟩) : Value) := slot (get_keep (hk 3 (no_dst (by kernel_rfl))) rfl)
      have e51 : ac.tmps[51]?.getD undef = (.int .i64 1 : Value) := slot (hdd 4 _ 51 rfl rfl rfl)
      refine yes (want_n rfl) ?_
      have hv := hid (hK (.pointer (some ⟨gd, 1, none⟩)) w1 (fun _ => rfl) (fun L' V' g1' g2' g3' g4' => hW.same (g2' 7 (by decide)) (g2' 12 (by decide)) (g2' 14 (by decide)) (g4' 7 (by decide))))
      clear hK hW hL hup hdd hk hcl
      go_simp
      exact kq hv.out rfl
    · intro ac w1 L hL hup hcl hW hdd hk Kx hK
      have e52 : ac.tmps[52]?.getD undef = (.pointer (some ⟨gd, 1, none⟩) : Value) := slot (hdd 5 _ 52 rfl rfl rfl)
      obtain ⟨hkp0, p', x', hq7, hlr⟩ := hW
      have x0 := hlr.d1
      have hW := W11.mk hkp0 hq7 hlr
      refine yes (want_n rfl) ?_
      have hv := hid (hK (.pointer (some ⟨p, 0, none⟩)) w1 (fun _ => rfl) (fun L' V' g1' g2' g3' g4' => hW.same (g2' 7 (by decide)) (g2' 12 (by decide)) (g2' 14 (by decide)) (g4' 7 (by decide))))
      clear hK hW hL hup hdd hk hcl hlr hq7
      go_simp
      exact kq hv.out rfl
    · intro ac w1 L hL hup hcl hW hdd hk Kx hK
      have h12 : L 12 = false := not_yet hcl 12 (j := 7) (by kernel_rfl) hL
      obtain ⟨hkp0, p0, x0, hq7, hlr⟩ := hW
      rw [h12] at hlr
      simp only [Bool.false_eq_true, if_false] at hlr
      have hs := hPV.out.s1.kp hkp0 (fun k h1 h2 => h2.elim (hPV.out.o1 k (.inl h1)).1 (hPV.out.o1 k (.inl h1)).2) (fun k h1 h2 => h2.elim (hPV.out.o1 k (.inr h1)).1 (hPV.out.o1 k (.inr h1)).2)
      refine yes (want_n rfl) ?_
      refine wp_callv 13 _ _ rfl _ Try.func13 rfl rfl _ (args1 (hdd 6 _ 53 rfl rfl rfl)) (copy_sole base p x d w1 hs (Nat.le_trans hbase.out hkp0.size) hfew.out) ?_
      rintro e w' ⟨p', x', rfl, hs', hap', ht', hr', hb'⟩
      exact ⟨_, rfl, hK _ w' (fun _ => trivial) (fun L' V' g1' g2' g3' g4' => ⟨hkp0.trans ((Kp.of_below (S := fun _ => False) hb').more (fun k e => e.elim)), p', x', (fun _ => ⟨g3' (by simp), hs', (fun k e => Nat.le_trans hkp0.size (ht' k e)), hr'⟩), by rw [g2' 12 (by decide), h12, g2' 14 (by decide)]; simp only [Bool.false_eq_true, if_false]; exact hlr.below hb'⟩)⟩
    · intro ac w1 L hL hup hcl hW hdd hk Kx hK
      refine yes (want_n rfl) (wp_mv _ rfl _ (get_keep (hk 7 (no_dst (by kernel_rfl))) rfl) ?_)
      exact hK _ _ (fun _ => rfl) (fun L' V' g1' g2' g3' g4' => hW.same (g2' 7 (by decide)) (g2' 12 (by decide)) (g2' 14 (by decide)) (g4' 7 (by decide)))
    · intro ac w1 L hL hup hcl hW hdd hk Kx hK
      have e4 : ac.tmps[4]?.getD undef = (.pointer (some ⟨gl, 0, none⟩) : Value) := slot (get_keep (hk 4 (no_dst (by kernel_rfl))) rfl)
      have e55 : ac.tmps[55]?.getD undef = (.int .i64 1 : Value) := slot (hdd 8 _ 55 rfl rfl rfl)
      refine yes (want_n rfl) ?_
      have hv := hid (hK (.pointer (some ⟨gl, 8, none⟩)) w1 (fun _ => rfl) (fun L' V' g1' g2' g3' g4' => hW.same (g2' 7 (by decide)) (g2' 12 (by decide)) (g2' 14 (by decide)) (g4' 7 (by decide))))
      clear hK hW hL hup hdd hk hcl
      go_simp
      exact kq hv.out rfl
    · intro ac w1 L hL hup hcl hW hdd hk Kx hK
      obtain ⟨hkp0, p', x', hq7, hlr⟩ := hW
      have hW := W11.mk hkp0 hq7 hlr
      refine yes (want_n rfl) ?_
      refine wp_load_mid 40 (.tmp 56) rfl gl 8 (hdd 9 _ 56 rfl rfl rfl) (y.cells d).toList _ hlr.l1 Try.underlying40 rfl (by rw [Array.length_toList]; exact info40s _ hlr.c1) ?_
      rw [Array.toArray_toList]
      exact hK _ _ (fun _ => rfl) (fun L' V' g1' g2' g3' g4' => hW.same (g2' 7 (by decide)) (g2' 12 (by decide)) (g2' 14 (by decide)) (g4' 7 (by decide)))
    · intro ac w1 L hL hup hcl hW hdd hk Kx hK
      have e3 : ac.tmps[3]?.getD undef = (.pointer (some ⟨gd, 0, none⟩) : Value) := slot (get_keep (hk 3 (no_dst (by kernel_rfl))) rfl)
      have e48 : ac.tmps[48]?.getD undef = (.int .i64 0 : Value) := slot (hdd 1 _ 48 rfl rfl rfl)
      refine yes (want_n rfl) ?_
      have hv := hid (hK (.pointer (some ⟨gd, 0, none⟩)) w1 (fun _ => rfl) (fun L' V' g1' g2' g3' g4' => hW.same (g2' 7 (by decide)) (g2' 12 (by decide)) (g2' 14 (by decide)) (g4' 7 (by decide))))
      clear hK hW hL hup hdd hk hcl
      go_simp
      exact kq hv.out rfl
    · intro ac w1 L hL hup hcl hW hdd hk Kx hK
      have h7 : L 7 = true := up_of hup (by kernel_rfl)
      obtain ⟨hkp0, p', x', hq7, hlr⟩ := hW
      obtain ⟨hv7, hs', ht', hr'⟩ := hq7 h7
      rw [hL] at hlr
      simp only [Bool.false_eq_true, if_false] at hlr
      have e54 : ac.tmps[54]?.getD undef = (.pointer (some ⟨p', 0, none⟩) : Value) := slot ((valAt_of (i := 7) rfl rfl).symm.trans hv7)
      have e58 : ac.tmps[58]?.getD undef = (.pointer (some ⟨gd, 0, none⟩) : Value) := slot (hdd 11 _ 58 rfl rfl rfl)
      have x1 := hlr.d2
      have x2 := hlr.fz 0
      simp only [Nat.sub_self] at x1
      have lt1 := hPV.out.lt1
      have kc : Kp (fun b => b = gd) w1 (w1.setCell ⟨gd, 0, none⟩ (.pointer (some ⟨p', 0, none⟩))) := Kp.setCell (S := fun b => b = gd) (Kp.refl _ _) (p := ⟨gd, 0, none⟩) rfl _
      refine yes (want_n rfl) ?_
      have hv := hid (hK undef (w1.setCell ⟨gd, 0, none⟩ (.pointer (some ⟨p', 0, none⟩))) (fun h => absurd rfl h) (fun L' V' g1' g2' g3' g4' => ⟨hkp0.trans (kc.more (fun k e => .inl e)), p', x', (fun _ => ⟨(g4' 7 (by decide)).trans hv7, hs'.kp kc (fun k h e => by have := ht' k h; omega) (fun k h e => (hPV.out.o1 k (.inr (hr' k h))).1 e), ht', hr'⟩), by rw [g1', g2' 14 (by decide)]; simp only [if_true]; exact hlr.setD1 p' hPV.out.ne⟩))
      clear hK hL hup hdd hk hcl hlr hq7 hs' ht' hr' kc hkp0
      go_simp
      exact hv.out
    · intro ac w1 L hL hup hcl hW hdd hk Kx hK
      have e4 : ac.tmps[4]?.getD undef = (.pointer (some ⟨gl, 0, none⟩) : Value) := slot (get_keep (hk 4 (no_dst (by kernel_rfl))) rfl)
      have e50 : ac.tmps[50]?.getD undef = (.int .i64 0 : Value) := slot (hdd 3 _ 50 rfl rfl rfl)
      refine yes (want_n rfl) ?_
      have hv := hid (hK (.pointer (some ⟨gl, 0, none⟩)) w1 (fun _ => rfl) (fun L' V' g1' g2' g3' g4' => hW.same (g2' 7 (by decide)) (g2' 12 (by decide)) (g2' 14 (by decide)) (g4' 7 (by decide))))
      clear hK hW hL hup hdd hk hcl
      go_simp
      exact kq hv.out rfl
    · intro ac w1 L hL hup hcl hW hdd hk Kx hK
      obtain ⟨hkp0, p', x', hq7, hlr⟩ := hW
      rw [hL] at hlr
      simp only [Bool.false_eq_true, if_false] at hlr
      refine yes (want_n rfl) ?_
      refine wp_store_mid 40 (.tmp 59) (.tmp 57) rfl gl 0 (y.cells d) (hdd 13 _ 59 rfl rfl rfl) (hdd 10 _ 57 rfl rfl rfl) hlr.there.2 info40c (cells_all _ _) ?_
      have lt2 := hPV.out.lt2
      have kc := kp_setCells (fun b => b = gl) gl rfl (y.cells d).toList 0 w1
      exact hK _ _ (fun h => absurd rfl h) (fun L' V' g1' g2' g3' g4' => ⟨hkp0.trans (kc.more (fun k e => .inr e)), p', x', (fun h7 => ⟨(g4' 7 (by decide)).trans (hq7 ((g2' 7 (by decide)) ▸ h7)).1, (hq7 ((g2' 7 (by decide)) ▸ h7)).2.1.kp kc (fun k h e => by have := (hq7 ((g2' 7 (by decide)) ▸ h7)).2.2.1 k h; omega) (fun k h e => (hPV.out.o1 k (.inr ((hq7 ((g2' 7 (by decide)) ▸ h7)).2.2.2 k h))).2 e), (hq7 ((g2' 7 (by decide)) ▸ h7)).2.2⟩), by rw [g1', g2' 12 (by decide)]; simp only [if_true]; exact hlr.opp1 (y.cells d) rfl hPV.out.ne⟩)
  · intro ac w1 hdf hsz hkp hval hW
    obtain ⟨L, hall, hW⟩ := hW
    obtain ⟨hkp0, p', x', hq7, hlr⟩ := hW
    rw [hall 12 (by decide), hall 14 (by decide)] at hlr
    simp only [if_true] at hlr
    obtain ⟨hv7, hs', ht', hr'⟩ := hq7 (hall 7 (by decide))
    obtain ⟨ff, hf⟩ : ∃ ff, ff = fun d => ac.tmps.getD d undef := ⟨_, rfl⟩
    have hfa := act_filled hdf hsz hkp
    rw [← hf] at hfa
    rw [hfa]
    clear hdf hsz hkp hval hfa hf hv7 hq7
    clear ac
    simp only [fillAll, List.set_cons_zero, List.set_cons_succ]
    exact hQ.out _ _ _ _ _ _ _ _ _ _ _ _ _ p' x' w1 (hPV.out.copied hs' ht' hr' hkp0) hkp0 hlr

end Go.Proofs.Ytpngnmogjmdmhaa
