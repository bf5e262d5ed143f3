/- The regions of the law that turn both sides. -/
import Derived.Test.YtpngnmogjmdmhaaPvB
import Derived.Deep.MidRow
namespace Go.Proofs.Ytpngnmogjmdmhaa
open Go.RowKit
set_option linter.unusedVariables false


theorem setCells_frz {w : World} {g o : Nat} {vs : List Value} {b : Nat} (h : ∀ k, w.frozen? ⟨b, k, none⟩ = false) : ∀ k, (w.setCells g o vs).frozen? ⟨b, k, none⟩ = false := fun k => by rw [World.frozen?_setCells]; exact h k
theorem LR.put0 {w : World} {gd gl p q : Nat} {cy cu : Array Value} (h : LR w gd gl 0 p q cy cu) (cs : Array Value) (hc : cs.size = 8) (hne : gd ≠ gl) : LR (w.setCells gl 0 cs.toList) gd gl 0 p q cs cu := by
  have kc := kp_setCells (fun b => b = gl) gl rfl cs.toList 0 w
  refine ⟨stayK kc hne h.d1, stayK kc hne h.d2, setCells_frz h.fz, World.rangeAt_setCells_same w gl 0 _ (by rw [Array.length_toList, hc]; exact h.there.1), World.rangeAt_setCells_apart h.l2 _ _ _ (.inr (.inr (by rw [Array.length_toList, hc]; decide))), setCells_frz h.fl, hc, h.c2⟩
theorem LR.put1 {w : World} {gd gl p q : Nat} {cy cu : Array Value} (h : LR w gd gl 1 p q cy cu) (cs : Array Value) (hc : cs.size = 8) (hne : gd ≠ gl) : LR (w.setCells gl 8 cs.toList) gd gl 1 p q cs cu := by
  have kc := kp_setCells (fun b => b = gl) gl rfl cs.toList 8 w
  refine ⟨stayK kc hne h.d1, stayK kc hne h.d2, setCells_frz h.fz, World.rangeAt_setCells_same w gl 8 _ (by rw [Array.length_toList, hc]; exact h.there.1), World.rangeAt_setCells_apart h.l2 _ _ _ (.inr (.inl (by rw [Array.length_toList, h.c2]; decide))), setCells_frz h.fl, hc, h.c2⟩

def W13 (base : Nat) (w : World) (gd gl on p q : Nat) (x z : Dx) (cu cy : Array Value) (D : Dsk) (L : Nat → Bool) (V : Nat → Value) (w1 : World) : Prop :=
  if L 8 = true then ∃ (x' : Dx) (y' : RDx), V 8 = .tuple #[.agg (y'.cells D), .bool true] ∧ (L 9 = true → V 9 = .tuple #[.agg (y'.cells D), .bool true]) ∧ (L 10 = true → V 10 = .agg (y'.cells D)) ∧
    Sole base w1 p x' D ∧ Grow w p x x' ∧ RD w1 (fun k => PT gd gl p q x z k ∨ Turn p x' k) y' D ∧ Kp (fun k => Turn p x k ∨ k = gl) w w1 ∧ LR w1 gd gl on p q (if L 13 = true then y'.cells D else cy) cu
  else Below w.heap.size w w1
section
variable {base : Nat} {w : World} {gd gl on p q : Nat} {x z : Dx} {cu cy : Array Value} {D : Dsk} {L L' : Nat → Bool} {V V' : Nat → Value} {w1 : World}
theorem W13.same (h : W13 base w gd gl on p q x z cu cy D L V w1) (h8 : L' 8 = L 8) (h9 : L' 9 = L 9) (h10 : L' 10 = L 10) (h13 : L' 13 = L 13) (v8 : V' 8 = V 8) (v9 : V' 9 = V 9) (v10 : V' 10 = V 10) : W13 base w gd gl on p q x z cu cy D L' V' w1 := by
  unfold W13; rw [h8, h9, h10, h13, v8, v9, v10]; exact h
theorem W13.bel (h : W13 base w gd gl on p q x z cu cy D L V w1) (h8 : L 8 = false) : Below w.heap.size w w1 := by
  unfold W13 at h; rw [h8, if_neg (by simp)] at h; exact h
theorem W13.one (h8 : L 8 = false) (h : Below w.heap.size w w1) : W13 base w gd gl on p q x z cu cy D L V w1 := by
  unfold W13; rw [h8, if_neg (by simp)]; exact h
theorem W13.res (h : W13 base w gd gl on p q x z cu cy D L V w1) (h8 : L 8 = true) : ∃ (x' : Dx) (y' : RDx), V 8 = .tuple #[.agg (y'.cells D), .bool true] ∧ (L 9 = true → V 9 = .tuple #[.agg (y'.cells D), .bool true]) ∧ (L 10 = true → V 10 = .agg (y'.cells D)) ∧
    Sole base w1 p x' D ∧ Grow w p x x' ∧ RD w1 (fun k => PT gd gl p q x z k ∨ Turn p x' k) y' D ∧ Kp (fun k => Turn p x k ∨ k = gl) w w1 ∧ LR w1 gd gl on p q (if L 13 = true then y'.cells D else cy) cu := by
  unfold W13 at h; rw [h8, if_pos rfl] at h; exact h
theorem W13.two (h8 : L 8 = true) (h : ∃ (x' : Dx) (y' : RDx), V 8 = .tuple #[.agg (y'.cells D), .bool true] ∧ (L 9 = true → V 9 = .tuple #[.agg (y'.cells D), .bool true]) ∧ (L 10 = true → V 10 = .agg (y'.cells D)) ∧
    Sole base w1 p x' D ∧ Grow w p x x' ∧ RD w1 (fun k => PT gd gl p q x z k ∨ Turn p x' k) y' D ∧ Kp (fun k => Turn p x k ∨ k = gl) w w1 ∧ LR w1 gd gl on p q (if L 13 = true then y'.cells D else cy) cu) : W13 base w gd gl on p q x z cu cy D L V w1 := by
  unfold W13; rw [h8, if_pos rfl]; exact h
end

def pv13_0 (gd gl p g6 : Nat) (cy OV : Array Value) : Nat → Value → Prop
  | 0, v => v = .int .i64 0
  | 1, v => v = .int .i64 0
  | 2, v => v = .pointer (some ⟨gd, 0, none⟩)
  | 3, v => v = .pointer (some ⟨p, 0, none⟩)
  | 4, v => v = .int .i64 0
  | 5, v => v = .pointer (some ⟨gl, 0, none⟩)
  | 6, v => v = .agg cy
  | 7, v => v = .agg OV
  | 11, v => v = .bool true
  | 12, v => v = .pointer (some ⟨gl, 0, none⟩)
  | 14, v => v = .bool true
  | _, _ => True

set_option maxRecDepth 100000 in
set_option maxHeartbeats 4000000 in
theorem plays_r13_0 {FF : Act → World → Prop} {w : World} {base gd gl p q m g6 : Nat} {x z : Dx} {y u : RDx} {d e : Dsk} {cu : Array Value} {D : Dsk} {OV : Array Value} {c0 c1 c2 c5 c8 c9 c10 c11 c12 c13 c14 c15 c16 c17 c18 c19 c20 c21 c22 c23 c24 c25 c26 c27 c28 c29 c30 c31 c32 c33 c34 c35 c36 c37 c38 c39 c40 c41 c42 c43 c44 c45 c46 c47 c48 c49 c50 c51 c52 c53 c54 c55 c56 c57 c58 c59 c60 c61 c62 c63 c64 c65 c66 c67 c68 c69 c70 c71 c72 c73 c74 c75 c76 c77 c78 c79 c80 c81 c82 c83 c84 c85 c86 c87 c88 c89 c90 c91 c92 c93 c94 c95 c96 c97 c98 c99 c100 c101 c102 c103 c104 c105 c106 c107 c108 c109 c110 c111 c112 : Value}
    (hPV : Hid (PV base w gd gl p q x z y u d e m)) (hLR : Hid (LR w gd gl 0 p q (y.cells d) cu)) (h6 : Hid (w.heap[g6]? = some (.cells OV 44 (0, 0)))) (hov : Hid (OV.size = 7))
    (kD : Hid (∀ w1, Below w.heap.size w w1 → Calls Try.prog 22 #[.pointer (some ⟨p, 0, none⟩), .agg (y.cells d), .agg OV] w1 (DPost base w1 p x (PT gd gl p q x z) D)))
    (hQ : Hid (∀ (d60 d61 d62 d63 d64 d65 d66 d67 d68 d69 d70 d71 d72 : Value) (x' : Dx) (y' : RDx) (w' : World), Sole base w' p x' D → Grow w p x x' → RD w' (fun k => PT gd gl p q x z k ∨ Turn p x' k) y' D → Kp (fun k => Turn p x k ∨ k = gl) w w' → LR w' gd gl 0 p q (y'.cells D) cu → FF ⟨#[c0, c1, c2, .pointer (some ⟨gd, 0, none⟩), .pointer (some ⟨gl, 0, none⟩), c5, .pointer (some ⟨g6, 0, none⟩), .int .i64 0, .bool true, c9, c10, c11, c12, c13, c14, c15, c16, c17, c18, c19, c20, c21, c22, c23, c24, c25, c26, c27, c28, c29, c30, c31, c32, c33, c34, c35, c36, c37, c38, c39, c40, c41, c42, c43, c44, c45, c46, c47, c48, c49, c50, c51, c52, c53, c54, c55, c56, c57, c58, c59, d60, d61, d62, d63, d64, d65, d66, d67, d68, d69, d70, d71, d72, c73, c74, c75, c76, c77, c78, c79, c80, c81, c82, c83, c84, c85, c86, c87, c88, c89, c90, c91, c92, c93, c94, c95, c96, c97, c98, c99, c100, c101, c102, c103, c104, c105, c106, c107, c108, c109, c110, c111, c112], []⟩ w')) :
    Code.wp Try.prog ((Try.f4.body.bind (regAt 13)).getD .skip) (Nrm FF) ⟨#[c0, c1, c2, .pointer (some ⟨gd, 0, none⟩), .pointer (some ⟨gl, 0, none⟩), c5, .pointer (some ⟨g6, 0, none⟩), .int .i64 0, c8, c9, c10, c11, c12, c13, c14, c15, c16, c17, c18, c19, c20, c21, c22, c23, c24, c25, c26, c27, c28, c29, c30, c31, c32, c33, c34, c35, c36, c37, c38, c39, c40, c41, c42, c43, c44, c45, c46, c47, c48, c49, c50, c51, c52, c53, c54, c55, c56, c57, c58, c59, c60, c61, c62, c63, c64, c65, c66, c67, c68, c69, c70, c71, c72, c73, c74, c75, c76, c77, c78, c79, c80, c81, c82, c83, c84, c85, c86, c87, c88, c89, c90, c91, c92, c93, c94, c95, c96, c97, c98, c99, c100, c101, c102, c103, c104, c105, c106, c107, c108, c109, c110, c111, c112], []⟩ w := by
  have info44 : (Try.prog.info? 44).map (·.size) = some OV.size := by rw [hov.out]; kernel_rfl
  conv => arg 2; whnf
  refine wp_region_alv (Wd := W13 base w gd gl 0 p q x z cu (y.cells d) D) (Pv := pv13_0 gd gl p g6 (y.cells d) OV) (by kernel_rfl) (by kernel_rfl) ?_ ?_ ?_
  · intro L V hL
    exact W13.one (hL 8) (drew_below w)
  · refine ⟨?_, ?_, ?_, ?_, ?_, ?_, ?_, ?_, ?_, ?_, ?_, ?_, ?_, ?_, ?_, trivial⟩
    · intro ac w1 L hL hup hcl hW hdd hk Kx hK
      refine yes (want_n rfl) (wp_mv _ rfl _ (get_keep (hk 7 (no_dst (by kernel_rfl))) rfl) ?_)
      exact hK _ _ (fun _ => rfl) (fun L' V' g1' g2' g3' g4' => hW.same (g2' 8 (by decide)) (g2' 9 (by decide)) (g2' 10 (by decide)) (g2' 13 (by decide)) (g4' 8 (by decide)) (g4' 9 (by decide)) (g4' 10 (by decide)))
    · intro ac w1 L hL hup hcl hW hdd hk Kx hK
      refine yes (want_n rfl) (wp_mv _ rfl _ (get_keep (hk 7 (no_dst (by kernel_rfl))) rfl) ?_)
      exact hK _ _ (fun _ => rfl) (fun L' V' g1' g2' g3' g4' => hW.same (g2' 8 (by decide)) (g2' 9 (by decide)) (g2' 10 (by decide)) (g2' 13 (by decide)) (g4' 8 (by decide)) (g4' 9 (by decide)) (g4' 10 (by decide)))
    · intro ac w1 L hL hup hcl hW hdd hk Kx hK
      have e3 : ac.tmps[3]?.getD undef = (.pointer (some ⟨gd, 0, none⟩) : Value) := slot (get_keep (hk 3 (no_dst (by kernel_rfl))) rfl)
      have e62 : ac.tmps[62]?.getD undef = (.int .i64 0 : Value) := slot (hdd 1 _ 62 rfl rfl rfl)
      refine yes (want_n rfl) ?_
      have hv := hid (hK (.pointer (some ⟨gd, 0, none⟩)) w1 (fun _ => rfl) (fun L' V' g1' g2' g3' g4' => hW.same (g2' 8 (by decide)) (g2' 9 (by decide)) (g2' 10 (by decide)) (g2' 13 (by decide)) (g4' 8 (by decide)) (g4' 9 (by decide)) (g4' 10 (by decide))))
      clear hK hW hL hup hdd hk hcl
      go_simp
      exact kq hv.out rfl
    · intro ac w1 L hL hup hcl hW hdd hk Kx hK
      have h8 : L 8 = false := not_yet hcl 12 (j := 3) (by kernel_rfl) hL
      have hR := hW.bel h8
      have e63 : ac.tmps[63]?.getD undef = (.pointer (some ⟨gd, 0, none⟩) : Value) := slot (hdd 2 _ 63 rfl rfl rfl)
      have x0 := stayb hR hLR.out.d1
      refine yes (want_n rfl) ?_
      have hv := hid (hK (.pointer (some ⟨p, 0, none⟩)) w1 (fun _ => rfl) (fun L' V' g1' g2' g3' g4' => hW.same (g2' 8 (by decide)) (g2' 9 (by decide)) (g2' 10 (by decide)) (g2' 13 (by decide)) (g4' 8 (by decide)) (g4' 9 (by decide)) (g4' 10 (by decide))))
      clear hK hW hL hup hdd hk hcl
      go_simp
      exact kq hv.out rfl
    · intro ac w1 L hL hup hcl hW hdd hk Kx hK
      refine yes (want_n rfl) (wp_mv _ rfl _ (get_keep (hk 7 (no_dst (by kernel_rfl))) rfl) ?_)
      exact hK _ _ (fun _ => rfl) (fun L' V' g1' g2' g3' g4' => hW.same (g2' 8 (by decide)) (g2' 9 (by decide)) (g2' 10 (by decide)) (g2' 13 (by decide)) (g4' 8 (by decide)) (g4' 9 (by decide)) (g4' 10 (by decide)))
    · intro ac w1 L hL hup hcl hW hdd hk Kx hK
      have e4 : ac.tmps[4]?.getD undef = (.pointer (some ⟨gl, 0, none⟩) : Value) := slot (get_keep (hk 4 (no_dst (by kernel_rfl))) rfl)
      have e65 : ac.tmps[65]?.getD undef = (.int .i64 0 : Value) := slot (hdd 4 _ 65 rfl rfl rfl)
      refine yes (want_n rfl) ?_
      have hv := hid (hK (.pointer (some ⟨gl, 0, none⟩)) w1 (fun _ => rfl) (fun L' V' g1' g2' g3' g4' => hW.same (g2' 8 (by decide)) (g2' 9 (by decide)) (g2' 10 (by decide)) (g2' 13 (by decide)) (g4' 8 (by decide)) (g4' 9 (by decide)) (g4' 10 (by decide))))
      clear hK hW hL hup hdd hk hcl
      go_simp
      exact kq hv.out rfl
    · intro ac w1 L hL hup hcl hW hdd hk Kx hK
      have h8 : L 8 = false := not_yet hcl 12 (j := 6) (by kernel_rfl) hL
      have hR := hW.bel h8
      refine yes (want_n rfl) ?_
      refine wp_load_mid 40 (.tmp 66) rfl gl 0 (hdd 5 _ 66 rfl rfl rfl) (y.cells d).toList _ (range_kp hLR.out.l1 (Kp.of_below (S := fun _ => False) hR) (fun h => h)) Try.underlying40 rfl (by rw [Array.length_toList]; exact info40s _ hLR.out.c1) ?_
      rw [Array.toArray_toList]
      exact hK _ _ (fun _ => rfl) (fun L' V' g1' g2' g3' g4' => hW.same (g2' 8 (by decide)) (g2' 9 (by decide)) (g2' 10 (by decide)) (g2' 13 (by decide)) (g4' 8 (by decide)) (g4' 9 (by decide)) (g4' 10 (by decide)))
    · intro ac w1 L hL hup hcl hW hdd hk Kx hK
      have h8 : L 8 = false := not_yet hcl 12 (j := 7) (by kernel_rfl) hL
      have hR := hW.bel h8
      refine yes (want_n rfl) ?_
      refine wp_load_row 44 (.tmp 6) rfl g6 (get_keep (hk 6 (no_dst (by kernel_rfl))) rfl) 44 OV (0, 0) _ (row_b h6.out hR) Try.underlying44 rfl info44 ?_
      exact hK _ _ (fun _ => rfl) (fun L' V' g1' g2' g3' g4' => hW.same (g2' 8 (by decide)) (g2' 9 (by decide)) (g2' 10 (by decide)) (g2' 13 (by decide)) (g4' 8 (by decide)) (g4' 9 (by decide)) (g4' 10 (by decide)))
    · intro ac w1 L hL hup hcl hW hdd hk Kx hK
      have hR := hW.bel hL
      have h9 : L 9 = false := not_yet hcl 12 (j := 8) (by kernel_rfl) hL
      have h10 : L 10 = false := not_yet hcl 12 (j := 8) (by kernel_rfl) hL
      have h13 : L 13 = false := not_yet hcl 12 (j := 8) (by kernel_rfl) hL
      have hV := hPV.out.below hR
      have hLr := hLR.out.below hR
      refine yes (want_n rfl) ?_
      refine wp_callv 22 _ _ rfl _ Try.func22 rfl rfl _ (args3 (hdd 3 _ 64 rfl rfl rfl) (hdd 6 _ 67 rfl rfl rfl) (hdd 7 _ 68 rfl rfl rfl)) (kD.out w1 hR) ?_
      rintro e w' ⟨x', y', rfl, hs', hg', hr', hk'⟩
      exact ⟨_, rfl, hK _ w' (fun _ => trivial) (fun L' V' g1' g2' g3' g4' => W13.two g1' ⟨x', y', g3' (by simp), (fun h => by rw [g2' 9 (by decide), h9] at h; cases h), (fun h => by rw [g2' 10 (by decide), h10] at h; cases h), hs', ⟨fun k e => (hg'.1 k e).imp id (fun h => Nat.le_trans hR.size h), fun k e => (hg'.2 k e).imp id (fun h => Nat.le_trans hR.size h)⟩, hr', ((Kp.of_below hR).trans hk').more (fun k e => .inl e), by rw [g2' 13 (by decide), h13]; exact hLr.kp hk' (fun h => (hPV.out.o1 gd (.inl h)).1 rfl) (fun h => (hPV.out.o1 gl (.inl h)).2 rfl)⟩)⟩
    · intro ac w1 L hL hup hcl hW hdd hk Kx hK
      have h8 : L 8 = true := up_of hup (by kernel_rfl)
      obtain ⟨x', y', hv8, h9q, h10q, hrest⟩ := hW.res h8
      refine yes (want_n rfl) (wp_mv _ rfl _ ((valAt_of (i := 8) rfl rfl).symm.trans hv8) ?_)
      exact hK _ _ (fun _ => trivial) (fun L' V' g1' g2' g3' g4' => W13.two ((g2' 8 (by decide)).trans h8) ⟨x', y', (g4' 8 (by decide)).trans hv8, (fun _ => g3' (by simp)), (fun h => (g4' 10 (by decide)).trans (h10q ((g2' 10 (by decide)) ▸ h))), by rw [g2' 13 (by decide)]; exact hrest⟩)
    · intro ac w1 L hL hup hcl hW hdd hk Kx hK
      have h9 : L 9 = true := up_of hup (by kernel_rfl)
      have h8 : L 8 = true := needs_up hcl 12 9 8 (by kernel_rfl) h9
      obtain ⟨x', y', hv8, h9q, h10q, hrest⟩ := hW.res h8
      have e60 : ac.tmps[60]?.getD undef = (.tuple #[.agg (y'.cells D), .bool true] : Value) := slot ((valAt_of (i := 9) rfl rfl).symm.trans (h9q h9))
      refine yes (want_n rfl) ?_
      have hv := hid (hK (.agg (y'.cells D)) w1 (fun _ => trivial) (fun L' V' g1' g2' g3' g4' => W13.two ((g2' 8 (by decide)).trans h8) ⟨x', y', (g4' 8 (by decide)).trans hv8, (fun _ => (g4' 9 (by decide)).trans (h9q h9)), (fun _ => g3' (by simp)), by rw [g2' 13 (by decide)]; exact hrest⟩))
      clear hK hW hL hup hdd hk hcl hrest h9q h10q
      go_simp
      exact kq hv.out rfl
    · intro ac w1 L hL hup hcl hW hdd hk Kx hK
      have h9 : L 9 = true := up_of hup (by kernel_rfl)
      have h8 : L 8 = true := needs_up hcl 12 9 8 (by kernel_rfl) h9
      obtain ⟨x', y', hv8, h9q, h10q, hrest⟩ := hW.res h8
      have e60 : ac.tmps[60]?.getD undef = (.tuple #[.agg (y'.cells D), .bool true] : Value) := slot ((valAt_of (i := 9) rfl rfl).symm.trans (h9q h9))
      refine yes (want_n rfl) ?_
      have hv := hid (hK (.bool true) w1 (fun _ => rfl) (fun L' V' g1' g2' g3' g4' => hW.same (g2' 8 (by decide)) (g2' 9 (by decide)) (g2' 10 (by decide)) (g2' 13 (by decide)) (g4' 8 (by decide)) (g4' 9 (by decide)) (g4' 10 (by decide))))
      clear hK hW hL hup hdd hk hcl hrest h9q h10q
      go_simp
      exact kq hv.out rfl
    · intro ac w1 L hL hup hcl hW hdd hk Kx hK
      have e4 : ac.tmps[4]?.getD undef = (.pointer (some ⟨gl, 0, none⟩) : Value) := slot (get_keep (hk 4 (no_dst (by kernel_rfl))) rfl)
      have e61 : ac.tmps[61]?.getD undef = (.int .i64 0 : Value) := slot (hdd 0 _ 61 rfl rfl rfl)
      refine yes (want_n rfl) ?_
      have hv := hid (hK (.pointer (some ⟨gl, 0, none⟩)) w1 (fun _ => rfl) (fun L' V' g1' g2' g3' g4' => hW.same (g2' 8 (by decide)) (g2' 9 (by decide)) (g2' 10 (by decide)) (g2' 13 (by decide)) (g4' 8 (by decide)) (g4' 9 (by decide)) (g4' 10 (by decide))))
      clear hK hW hL hup hdd hk hcl
      go_simp
      exact kq hv.out rfl
    · intro ac w1 L hL hup hcl hW hdd hk Kx hK
      have h10 : L 10 = true := up_of hup (by kernel_rfl)
      have h8 : L 8 = true := needs_up hcl 12 10 8 (by kernel_rfl) h10
      obtain ⟨x', y', hv8, h9q, h10q, hs', hg', hr', hk', hlr⟩ := hW.res h8
      rw [hL] at hlr
      simp only [Bool.false_eq_true, if_false] at hlr
      refine yes (want_n rfl) ?_
      refine wp_store_mid 40 (.tmp 72) (.tmp 70) rfl gl 0 (y'.cells D) (hdd 12 _ 72 rfl rfl rfl) ((valAt_of (i := 10) rfl rfl).symm.trans (h10q h10)) hlr.there.1 info40c (cells_all _ _) ?_
      have kc := kp_setCells (fun b => b = gl) gl rfl (y'.cells D).toList 0 w1
      have hPl : ∀ k, Turn p x' k ∨ Reads x' k → k ≠ gl := fun k h e => by
        have lt2 := hPV.out.lt2
        rcases h with h | h
        · rcases hg'.1 k h with h1 | h1
          · exact (hPV.out.o1 k (.inl h1)).2 e
          · omega
        · rcases hg'.2 k h with h1 | h1
          · exact (hPV.out.o1 k (.inr h1)).2 e
          · omega
      exact hK _ _ (fun h => absurd rfl h) (fun L' V' g1' g2' g3' g4' => W13.two ((g2' 8 (by decide)).trans h8) ⟨x', y', (g4' 8 (by decide)).trans hv8, (fun h => (g4' 9 (by decide)).trans (h9q ((g2' 9 (by decide)) ▸ h))), (fun _ => (g4' 10 (by decide)).trans (h10q h10)), hs'.kp kc (fun k h e => hPl k (.inl h) e) (fun k h e => hPl k (.inr h) e), hg', hr'.kp (kc.more (fun k e => .inl (.inr (.inr e)))), hk'.trans (kc.more (fun k e => .inr e)), by rw [g1']; exact hlr.put0 (y'.cells D) rfl hPV.out.ne⟩)
    · intro ac w1 L hL hup hcl hW hdd hk Kx hK
      refine yes (want_n rfl) (wp_as _ rfl _ (hdd 11 _ 71 rfl rfl rfl) ?_)
      exact hK _ _ (fun _ => rfl) (fun L' V' g1' g2' g3' g4' => hW.same (g2' 8 (by decide)) (g2' 9 (by decide)) (g2' 10 (by decide)) (g2' 13 (by decide)) (g4' 8 (by decide)) (g4' 9 (by decide)) (g4' 10 (by decide)))
  · intro ac w1 hdf hsz hkp hval hW
    obtain ⟨L, hall, hW⟩ := hW
    obtain ⟨x', y', hv8, h9q, h10q, hs', hg', hr', hk', hlr⟩ := hW.res (hall 8 (by decide))
    rw [hall 13 (by decide)] at hlr
    simp only [if_true] at hlr
    obtain ⟨ff, hf⟩ : ∃ ff, ff = fun d => ac.tmps.getD d undef := ⟨_, rfl⟩
    have h7 : ff 8 = .bool true := by rw [hf]; exact hval 14 _ 8 rfl rfl
    have hfa := act_filled hdf hsz hkp
    rw [← hf] at hfa
    rw [hfa]
    clear hdf hsz hkp hval hfa hf hv8 h9q h10q hW
    clear ac
    simp only [fillAll, List.set_cons_zero, List.set_cons_succ, h7]
    exact hQ.out _ _ _ _ _ _ _ _ _ _ _ _ _ x' y' w1 hs' hg' hr' hk' hlr

def pv13_1 (gd gl p g6 : Nat) (cy OV : Array Value) : Nat → Value → Prop
  | 0, v => v = .int .i64 1
  | 1, v => v = .int .i64 1
  | 2, v => v = .pointer (some ⟨gd, 1, none⟩)
  | 3, v => v = .pointer (some ⟨p, 0, none⟩)
  | 4, v => v = .int .i64 1
  | 5, v => v = .pointer (some ⟨gl, 8, none⟩)
  | 6, v => v = .agg cy
  | 7, v => v = .agg OV
  | 11, v => v = .bool true
  | 12, v => v = .pointer (some ⟨gl, 8, none⟩)
  | 14, v => v = .bool true
  | _, _ => True

set_option maxRecDepth 100000 in
set_option maxHeartbeats 4000000 in
theorem plays_r13_1 {FF : Act → World → Prop} {w : World} {base gd gl p q m g6 : Nat} {x z : Dx} {y u : RDx} {d e : Dsk} {cu : Array Value} {D : Dsk} {OV : Array Value} {c0 c1 c2 c5 c8 c9 c10 c11 c12 c13 c14 c15 c16 c17 c18 c19 c20 c21 c22 c23 c24 c25 c26 c27 c28 c29 c30 c31 c32 c33 c34 c35 c36 c37 c38 c39 c40 c41 c42 c43 c44 c45 c46 c47 c48 c49 c50 c51 c52 c53 c54 c55 c56 c57 c58 c59 c60 c61 c62 c63 c64 c65 c66 c67 c68 c69 c70 c71 c72 c73 c74 c75 c76 c77 c78 c79 c80 c81 c82 c83 c84 c85 c86 c87 c88 c89 c90 c91 c92 c93 c94 c95 c96 c97 c98 c99 c100 c101 c102 c103 c104 c105 c106 c107 c108 c109 c110 c111 c112 : Value}
    (hPV : Hid (PV base w gd gl p q x z y u d e m)) (hLR : Hid (LR w gd gl 1 p q (y.cells d) cu)) (h6 : Hid (w.heap[g6]? = some (.cells OV 44 (0, 0)))) (hov : Hid (OV.size = 7))
    (kD : Hid (∀ w1, Below w.heap.size w w1 → Calls Try.prog 22 #[.pointer (some ⟨p, 0, none⟩), .agg (y.cells d), .agg OV] w1 (DPost base w1 p x (PT gd gl p q x z) D)))
    (hQ : Hid (∀ (d60 d61 d62 d63 d64 d65 d66 d67 d68 d69 d70 d71 d72 : Value) (x' : Dx) (y' : RDx) (w' : World), Sole base w' p x' D → Grow w p x x' → RD w' (fun k => PT gd gl p q x z k ∨ Turn p x' k) y' D → Kp (fun k => Turn p x k ∨ k = gl) w w' → LR w' gd gl 1 p q (y'.cells D) cu → FF ⟨#[c0, c1, c2, .pointer (some ⟨gd, 0, none⟩), .pointer (some ⟨gl, 0, none⟩), c5, .pointer (some ⟨g6, 0, none⟩), .int .i64 1, .bool true, c9, c10, c11, c12, c13, c14, c15, c16, c17, c18, c19, c20, c21, c22, c23, c24, c25, c26, c27, c28, c29, c30, c31, c32, c33, c34, c35, c36, c37, c38, c39, c40, c41, c42, c43, c44, c45, c46, c47, c48, c49, c50, c51, c52, c53, c54, c55, c56, c57, c58, c59, d60, d61, d62, d63, d64, d65, d66, d67, d68, d69, d70, d71, d72, c73, c74, c75, c76, c77, c78, c79, c80, c81, c82, c83, c84, c85, c86, c87, c88, c89, c90, c91, c92, c93, c94, c95, c96, c97, c98, c99, c100, c101, c102, c103, c104, c105, c106, c107, c108, c109, c110, c111, c112], []⟩ w')) :
    Code.wp Try.prog ((Try.f4.body.bind (regAt 13)).getD .skip) (Nrm FF) ⟨#[c0, c1, c2, .pointer (some ⟨gd, 0, none⟩), .pointer (some ⟨gl, 0, none⟩), c5, .pointer (some ⟨g6, 0, none⟩), .int .i64 1, c8, c9, c10, c11, c12, c13, c14, c15, c16, c17, c18, c19, c20, c21, c22, c23, c24, c25, c26, c27, c28, c29, c30, c31, c32, c33, c34, c35, c36, c37, c38, c39, c40, c41, c42, c43, c44, c45, c46, c47, c48, c49, c50, c51, c52, c53, c54, c55, c56, c57, c58, c59, c60, c61, c62, c63, c64, c65, c66, c67, c68, c69, c70, c71, c72, c73, c74, c75, c76, c77, c78, c79, c80, c81, c82, c83, c84, c85, c86, c87, c88, c89, c90, c91, c92, c93, c94, c95, c96, c97, c98, c99, c100, c101, c102, c103, c104, c105, c106, c107, c108, c109, c110, c111, c112], []⟩ w := by
  have info44 : (Try.prog.info? 44).map (·.size) = some OV.size := by rw [hov.out]; kernel_rfl
  conv => arg 2; whnf
  refine wp_region_alv (Wd := W13 base w gd gl 1 p q x z cu (y.cells d) D) (Pv := pv13_1 gd gl p g6 (y.cells d) OV) (by kernel_rfl) (by kernel_rfl) ?_ ?_ ?_
  · intro L V hL
    exact W13.one (hL 8) (drew_below w)
  · refine ⟨?_, ?_, ?_, ?_, ?_, ?_, ?_, ?_, ?_, ?_, ?_, ?_, ?_, ?_, ?_, trivial⟩
    · intro ac w1 L hL hup hcl hW hdd hk Kx hK
      refine yes (want_n rfl) (wp_mv _ rfl _ (get_keep (hk 7 (no_dst (by kernel_rfl))) rfl) ?_)
      exact hK _ _ (fun _ => rfl) (fun L' V' g1' g2' g3' g4' => hW.same (g2' 8 (by decide)) (g2' 9 (by decide)) (g2' 10 (by decide)) (g2' 13 (by decide)) (g4' 8 (by decide)) (g4' 9 (by decide)) (g4' 10 (by decide)))
    · intro ac w1 L hL hup hcl hW hdd hk Kx hK
      refine yes (want_n rfl) (wp_mv _ rfl _ (get_keep (hk 7 (no_dst (by kernel_rfl))) rfl) ?_)
      exact hK _ _ (fun _ => rfl) (fun L' V' g1' g2' g3' g4' => hW.same (g2' 8 (by decide)) (g2' 9 (by decide)) (g2' 10 (by decide)) (g2' 13 (by decide)) (g4' 8 (by decide)) (g4' 9 (by decide)) (g4' 10 (by decide)))
    · intro ac w1 L hL hup hcl hW hdd hk Kx hK
      have e3 : ac.tmps[3]?.getD undef = (.pointer (some ⟨gd, 0, none⟩) : Value) := slot (get_keep (hk 3 (no_dst (by kernel_rfl))) rfl)
      have e62 : ac.tmps[62]?.getD undef = (.int .i64 1 : Value) := slot (hdd 1 _ 62 rfl rfl rfl)
      refine yes (want_n rfl) ?_
      have hv := hid (hK (.pointer (some ⟨gd, 1, none⟩)) w1 (fun _ => rfl) (fun L' V' g1' g2' g3' g4' => hW.same (g2' 8 (by decide)) (g2' 9 (by decide)) (g2' 10 (by decide)) (g2' 13 (by decide)) (g4' 8 (by decide)) (g4' 9 (by decide)) (g4' 10 (by decide))))
      clear hK hW hL hup hdd hk hcl
      go_simp
      exact kq hv.out rfl
    · intro ac w1 L hL hup hcl hW hdd hk Kx hK
      have h8 : L 8 = false := not_yet hcl 12 (j := 3) (by kernel_rfl) hL
      have hR := hW.bel h8
      have e63 : ac.tmps[63]?.getD undef = (.pointer (some ⟨gd, 1, none⟩) : Value) := slot (hdd 2 _ 63 rfl rfl rfl)
      have x0 := stayb hR hLR.out.d1
      refine yes (want_n rfl) ?_
      have hv := hid (hK (.pointer (some ⟨p, 0, none⟩)) w1 (fun _ => rfl) (fun L' V' g1' g2' g3' g4' => hW.same (g2' 8 (by decide)) (g2' 9 (by decide)) (g2' 10 (by decide)) (g2' 13 (by decide)) (g4' 8 (by decide)) (g4' 9 (by decide)) (g4' 10 (by decide))))
      clear hK hW hL hup hdd hk hcl
      go_simp
      exact kq hv.out rfl
    · intro ac w1 L hL hup hcl hW hdd hk Kx hK
      refine yes (want_n rfl) (wp_mv _ rfl _ (get_keep (hk 7 (no_dst (by kernel_rfl))) rfl) ?_)
      exact hK _ _ (fun _ => rfl) (fun L' V' g1' g2' g3' g4' => hW.same (g2' 8 (by decide)) (g2' 9 (by decide)) (g2' 10 (by decide)) (g2' 13 (by decide)) (g4' 8 (by decide)) (g4' 9 (by decide)) (g4' 10 (by decide)))
    · intro ac w1 L hL hup hcl hW hdd hk Kx hK
      have e4 : ac.tmps[4]?.getD undef = (.pointer (some ⟨gl, 0, none⟩) : Value) := slot (get_keep (hk 4 (no_dst (by kernel_rfl))) rfl)
      have e65 : ac.tmps[65]?.getD undef = (.int .i64 1 : Value) := slot (hdd 4 _ 65 rfl rfl rfl)
      refine yes (want_n rfl) ?_
      have hv := hid (hK (.pointer (some ⟨gl, 8, none⟩)) w1 (fun _ => rfl) (fun L' V' g1' g2' g3' g4' => hW.same (g2' 8 (by decide)) (g2' 9 (by decide)) (g2' 10 (by decide)) (g2' 13 (by decide)) (g4' 8 (by decide)) (g4' 9 (by decide)) (g4' 10 (by decide))))
      clear hK hW hL hup hdd hk hcl
      go_simp
      exact kq hv.out rfl
    · intro ac w1 L hL hup hcl hW hdd hk Kx hK
      have h8 : L 8 = false := not_yet hcl 12 (j := 6) (by kernel_rfl) hL
      have hR := hW.bel h8
      refine yes (want_n rfl) ?_
      refine wp_load_mid 40 (.tmp 66) rfl gl 8 (hdd 5 _ 66 rfl rfl rfl) (y.cells d).toList _ (range_kp hLR.out.l1 (Kp.of_below (S := fun _ => False) hR) (fun h => h)) Try.underlying40 rfl (by rw [Array.length_toList]; exact info40s _ hLR.out.c1) ?_
      rw [Array.toArray_toList]
      exact hK _ _ (fun _ => rfl) (fun L' V' g1' g2' g3' g4' => hW.same (g2' 8 (by decide)) (g2' 9 (by decide)) (g2' 10 (by decide)) (g2' 13 (by decide)) (g4' 8 (by decide)) (g4' 9 (by decide)) (g4' 10 (by decide)))
    · intro ac w1 L hL hup hcl hW hdd hk Kx hK
      have h8 : L 8 = false := not_yet hcl 12 (j := 7) (by kernel_rfl) hL
      have hR := hW.bel h8
      refine yes (want_n rfl) ?_
      refine wp_load_row 44 (.tmp 6) rfl g6 (get_keep (hk 6 (no_dst (by kernel_rfl))) rfl) 44 OV (0, 0) _ (row_b h6.out hR) Try.underlying44 rfl info44 ?_
      exact hK _ _ (fun _ => rfl) (fun L' V' g1' g2' g3' g4' => hW.same (g2' 8 (by decide)) (g2' 9 (by decide)) (g2' 10 (by decide)) (g2' 13 (by decide)) (g4' 8 (by decide)) (g4' 9 (by decide)) (g4' 10 (by decide)))
    · intro ac w1 L hL hup hcl hW hdd hk Kx hK
      have hR := hW.bel hL
      have h9 : L 9 = false := not_yet hcl 12 (j := 8) (by kernel_rfl) hL
      have h10 : L 10 = false := not_yet hcl 12 (j := 8) (by kernel_rfl) hL
      have h13 : L 13 = false := not_yet hcl 12 (j := 8) (by kernel_rfl) hL
      have hV := hPV.out.below hR
      have hLr := hLR.out.below hR
      refine yes (want_n rfl) ?_
      refine wp_callv 22 _ _ rfl _ Try.func22 rfl rfl _ (args3 (hdd 3 _ 64 rfl rfl rfl) (hdd 6 _ 67 rfl rfl rfl) (hdd 7 _ 68 rfl rfl rfl)) (kD.out w1 hR) ?_
      rintro e w' ⟨x', y', rfl, hs', hg', hr', hk'⟩
      exact ⟨_, rfl, hK _ w' (fun _ => trivial) (fun L' V' g1' g2' g3' g4' => W13.two g1' ⟨x', y', g3' (by simp), (fun h => by rw [g2' 9 (by decide), h9] at h; cases h), (fun h => by rw [g2' 10 (by decide), h10] at h; cases h), hs', ⟨fun k e => (hg'.1 k e).imp id (fun h => Nat.le_trans hR.size h), fun k e => (hg'.2 k e).imp id (fun h => Nat.le_trans hR.size h)⟩, hr', ((Kp.of_below hR).trans hk').more (fun k e => .inl e), by rw [g2' 13 (by decide), h13]; exact hLr.kp hk' (fun h => (hPV.out.o1 gd (.inl h)).1 rfl) (fun h => (hPV.out.o1 gl (.inl h)).2 rfl)⟩)⟩
    · intro ac w1 L hL hup hcl hW hdd hk Kx hK
      have h8 : L 8 = true := up_of hup (by kernel_rfl)
      obtain ⟨x', y', hv8, h9q, h10q, hrest⟩ := hW.res h8
      refine yes (want_n rfl) (wp_mv _ rfl _ ((valAt_of (i := 8) rfl rfl).symm.trans hv8) ?_)
      exact hK _ _ (fun _ => trivial) (fun L' V' g1' g2' g3' g4' => W13.two ((g2' 8 (by decide)).trans h8) ⟨x', y', (g4' 8 (by decide)).trans hv8, (fun _ => g3' (by simp)), (fun h => (g4' 10 (by decide)).trans (h10q ((g2' 10 (by decide)) ▸ h))), by rw [g2' 13 (by decide)]; exact hrest⟩)
    · intro ac w1 L hL hup hcl hW hdd hk Kx hK
      have h9 : L 9 = true := up_of hup (by kernel_rfl)
      have h8 : L 8 = true := needs_up hcl 12 9 8 (by kernel_rfl) h9
      obtain ⟨x', y', hv8, h9q, h10q, hrest⟩ := hW.res h8
      have e60 : ac.tmps[60]?.getD undef = (.tuple #[.agg (y'.cells D), .bool true] : Value) := slot ((valAt_of (i := 9) rfl rfl).symm.trans (h9q h9))
      refine yes (want_n rfl) ?_
      have hv := hid (hK (.agg (y'.cells D)) w1 (fun _ => trivial) (fun L' V' g1' g2' g3' g4' => W13.two ((g2' 8 (by decide)).trans h8) ⟨x', y', (g4' 8 (by decide)).trans hv8, (fun _ => (g4' 9 (by decide)).trans (h9q h9)), (fun _ => g3' (by simp)), by rw [g2' 13 (by decide)]; exact hrest⟩))
      clear hK hW hL hup hdd hk hcl hrest h9q h10q
      go_simp
      exact kq hv.out rfl
    · intro ac w1 L hL hup hcl hW hdd hk Kx hK
      have h9 : L 9 = true := up_of hup (by kernel_rfl)
      have h8 : L 8 = true := needs_up hcl 12 9 8 (by kernel_rfl) h9
      obtain ⟨x', y', hv8, h9q, h10q, hrest⟩ := hW.res h8
      have e60 : ac.tmps[60]?.getD undef = (.tuple #[.agg (y'.cells D), .bool true] : Value) := slot ((valAt_of (i := 9) rfl rfl).symm.trans (h9q h9))
      refine yes (want_n rfl) ?_
      have hv := hid (hK (.bool true) w1 (fun _ => rfl) (fun L' V' g1' g2' g3' g4' => hW.same (g2' 8 (by decide)) (g2' 9 (by decide)) (g2' 10 (by decide)) (g2' 13 (by decide)) (g4' 8 (by decide)) (g4' 9 (by decide)) (g4' 10 (by decide))))
      clear hK hW hL hup hdd hk hcl hrest h9q h10q
      go_simp
      exact kq hv.out rfl
    · intro ac w1 L hL hup hcl hW hdd hk Kx hK
      have e4 : ac.tmps[4]?.getD undef = (.pointer (some ⟨gl, 0, none⟩) : Value) := slot (get_keep (hk 4 (no_dst (by kernel_rfl))) rfl)
      have e61 : ac.tmps[61]?.getD undef = (.int .i64 1 : Value) := slot (hdd 0 _ 61 rfl rfl rfl)
      refine yes (want_n rfl) ?_
      have hv := hid (hK (.pointer (some ⟨gl, 8, none⟩)) w1 (fun _ => rfl) (fun L' V' g1' g2' g3' g4' => hW.same (g2' 8 (by decide)) (g2' 9 (by decide)) (g2' 10 (by decide)) (g2' 13 (by decide)) (g4' 8 (by decide)) (g4' 9 (by decide)) (g4' 10 (by decide))))
      clear hK hW hL hup hdd hk hcl
      go_simp
      exact kq hv.out rfl
    · intro ac w1 L hL hup hcl hW hdd hk Kx hK
      have h10 : L 10 = true := up_of hup (by kernel_rfl)
      have h8 : L 8 = true := needs_up hcl 12 10 8 (by kernel_rfl) h10
      obtain ⟨x', y', hv8, h9q, h10q, hs', hg', hr', hk', hlr⟩ := hW.res h8
      rw [hL] at hlr
      simp only [Bool.false_eq_true, if_false] at hlr
      refine yes (want_n rfl) ?_
      refine wp_store_mid 40 (.tmp 72) (.tmp 70) rfl gl 8 (y'.cells D) (hdd 12 _ 72 rfl rfl rfl) ((valAt_of (i := 10) rfl rfl).symm.trans (h10q h10)) hlr.there.1 info40c (cells_all _ _) ?_
      have kc := kp_setCells (fun b => b = gl) gl rfl (y'.cells D).toList 8 w1
      have hPl : ∀ k, Turn p x' k ∨ Reads x' k → k ≠ gl := fun k h e => by
        have lt2 := hPV.out.lt2
        rcases h with h | h
        · rcases hg'.1 k h with h1 | h1
          · exact (hPV.out.o1 k (.inl h1)).2 e
          · omega
        · rcases hg'.2 k h with h1 | h1
          · exact (hPV.out.o1 k (.inr h1)).2 e
          · omega
      exact hK _ _ (fun h => absurd rfl h) (fun L' V' g1' g2' g3' g4' => W13.two ((g2' 8 (by decide)).trans h8) ⟨x', y', (g4' 8 (by decide)).trans hv8, (fun h => (g4' 9 (by decide)).trans (h9q ((g2' 9 (by decide)) ▸ h))), (fun _ => (g4' 10 (by decide)).trans (h10q h10)), hs'.kp kc (fun k h e => hPl k (.inl h) e) (fun k h e => hPl k (.inr h) e), hg', hr'.kp (kc.more (fun k e => .inl (.inr (.inr e)))), hk'.trans (kc.more (fun k e => .inr e)), by rw [g1']; exact hlr.put1 (y'.cells D) rfl hPV.out.ne⟩)
    · intro ac w1 L hL hup hcl hW hdd hk Kx hK
      refine yes (want_n rfl) (wp_as _ rfl _ (hdd 11 _ 71 rfl rfl rfl) ?_)
      exact hK _ _ (fun _ => rfl) (fun L' V' g1' g2' g3' g4' => hW.same (g2' 8 (by decide)) (g2' 9 (by decide)) (g2' 10 (by decide)) (g2' 13 (by decide)) (g4' 8 (by decide)) (g4' 9 (by decide)) (g4' 10 (by decide)))
  · intro ac w1 hdf hsz hkp hval hW
    obtain ⟨L, hall, hW⟩ := hW
    obtain ⟨x', y', hv8, h9q, h10q, hs', hg', hr', hk', hlr⟩ := hW.res (hall 8 (by decide))
    rw [hall 13 (by decide)] at hlr
    simp only [if_true] at hlr
    obtain ⟨ff, hf⟩ : ∃ ff, ff = fun d => ac.tmps.getD d undef := ⟨_, rfl⟩
    have h7 : ff 8 = .bool true := by rw [hf]; exact hval 14 _ 8 rfl rfl
    have hfa := act_filled hdf hsz hkp
    rw [← hf] at hfa
    rw [hfa]
    clear hdf hsz hkp hval hfa hf hv8 h9q h10q hW
    clear ac
    simp only [fillAll, List.set_cons_zero, List.set_cons_succ, h7]
    exact hQ.out _ _ _ _ _ _ _ _ _ _ _ _ _ x' y' w1 hs' hg' hr' hk' hlr

end Go.Proofs.Ytpngnmogjmdmhaa
