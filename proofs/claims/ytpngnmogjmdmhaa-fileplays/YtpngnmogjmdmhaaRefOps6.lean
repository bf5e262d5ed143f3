/- Append of the document's disk. -/
import Derived.Test.YtpngnmogjmdmhaaRefOps5
namespace Go.Proofs.Ytpngnmogjmdmhaa
open Go.RowKit
set_option linter.unusedVariables false

/-- Ahead of the copy, behind it, behind the call, behind the store. -/
def WdA (w : World) (T : Nat → Prop) (g2 F : Nat) (d : Dsk) (b : List UInt8) (L : Nat → Bool) (V : Nat → Value) (w1 : World) : Prop :=
  if L 5 = true then ∃ (x' : RDx) (W : World), RD W T x' (d.withD ⟨F, true, b, 0⟩) ∧ Below w.heap.size w W ∧ V 5 = .tuple #[.agg (x'.cells (d.withD ⟨F, true, b, 0⟩)), .int .i64 d.errs] ∧ (L 6 = true → V 6 = .agg (x'.cells (d.withD ⟨F, true, b, 0⟩))) ∧ w1 = if L 8 = true then W.setRow g2 (x'.cells (d.withD ⟨F, true, b, 0⟩)) else W
  else Below w.heap.size w w1 ∧ (L 3 = true → ∃ a c, V 3 = .slice a b.length c ∧ FA w1 T a c b ∧ (L 4 = true → V 4 = .agg #[.int .i64 (F : Int), .bool false, .int .i64 0, .slice a b.length c]))
section
variable {w : World} {T : Nat → Prop} {g2 F : Nat} {d : Dsk} {b : List UInt8} {L L' : Nat → Bool} {V V' : Nat → Value} {w1 : World}
theorem WdA.same (h : WdA w T g2 F d b L V w1) (h3 : L' 3 = L 3) (h4 : L' 4 = L 4) (h5 : L' 5 = L 5) (h6 : L' 6 = L 6) (h8 : L' 8 = L 8) (v3 : V' 3 = V 3) (v4 : V' 4 = V 4) (v5 : V' 5 = V 5) (v6 : V' 6 = V 6) : WdA w T g2 F d b L' V' w1 := by
  unfold WdA; rw [h3, h4, h5, h6, h8, v3, v4, v5, v6]; exact h
theorem WdA.row {o : Obj} {g1 : Nat} (h : WdA w T g2 F d b L V w1) (hr : w.heap[g1]? = some o) (hne : g1 ≠ g2) : w1.heap[g1]? = some o := by
  unfold WdA at h
  split at h
  · obtain ⟨x', W, _, hb, _, _, rfl⟩ := h
    split
    · rw [setRow_other _ _ _ hne]; exact row_b hr hb
    · exact row_b hr hb
  · exact row_b hr h.1
theorem WdA.bel (h : WdA w T g2 F d b L V w1) (h5 : L 5 = false) : Below w.heap.size w w1 := by
  unfold WdA at h; rw [h5, if_neg (by simp)] at h; exact h.1
theorem WdA.cop (h : WdA w T g2 F d b L V w1) (h5 : L 5 = false) (h3 : L 3 = true) : ∃ a c, V 3 = .slice a b.length c ∧ FA w1 T a c b ∧ (L 4 = true → V 4 = .agg #[.int .i64 (F : Int), .bool false, .int .i64 0, .slice a b.length c]) := by
  unfold WdA at h; rw [h5, if_neg (by simp)] at h; exact h.2 h3
theorem WdA.res (h : WdA w T g2 F d b L V w1) (h5 : L 5 = true) : ∃ (x' : RDx) (W : World), RD W T x' (d.withD ⟨F, true, b, 0⟩) ∧ Below w.heap.size w W ∧ V 5 = .tuple #[.agg (x'.cells (d.withD ⟨F, true, b, 0⟩)), .int .i64 d.errs] ∧ (L 6 = true → V 6 = .agg (x'.cells (d.withD ⟨F, true, b, 0⟩))) ∧ w1 = if L 8 = true then W.setRow g2 (x'.cells (d.withD ⟨F, true, b, 0⟩)) else W := by
  unfold WdA at h; rw [h5, if_pos rfl] at h; exact h
theorem WdA.one (h5 : L 5 = false) (hb : Below w.heap.size w w1) (h : L 3 = true → ∃ a c, V 3 = .slice a b.length c ∧ FA w1 T a c b ∧ (L 4 = true → V 4 = .agg #[.int .i64 (F : Int), .bool false, .int .i64 0, .slice a b.length c])) : WdA w T g2 F d b L V w1 := by
  unfold WdA; rw [h5, if_neg (by simp)]; exact ⟨hb, h⟩
theorem WdA.two (h5 : L 5 = true) (h : ∃ (x' : RDx) (W : World), RD W T x' (d.withD ⟨F, true, b, 0⟩) ∧ Below w.heap.size w W ∧ V 5 = .tuple #[.agg (x'.cells (d.withD ⟨F, true, b, 0⟩)), .int .i64 d.errs] ∧ (L 6 = true → V 6 = .agg (x'.cells (d.withD ⟨F, true, b, 0⟩))) ∧ w1 = if L 8 = true then W.setRow g2 (x'.cells (d.withD ⟨F, true, b, 0⟩)) else W) : WdA w T g2 F d b L V w1 := by
  unfold WdA; rw [h5, if_pos rfl]; exact h
end
def pvA (x : RDx) (d : Dsk) (F n bc : Nat) (ba : Option Addr) : Nat → Value → Prop
  | 0, v => v = .agg (x.cells d)
  | 1, v => v = .int .i64 (F : Int)
  | 2, v => v = .slice ba n bc
  | 7, v => v = .int .i64 d.errs
  | 9, v => v = .int .i64 d.errs
  | _, _ => True

set_option maxRecDepth 100000 in
set_option maxHeartbeats 4000000 in
theorem append_r5 {FF : Act → World → Prop} {w : World} {T : Nat → Prop} {x : RDx} {d : Dsk} {g1 g2 F n bc : Nat} {ba : Option Addr} {b : List UInt8} {old : Array Value} {c0 c4 c5 c7 c8 c9 c10 c11 c12 c13 c14 c15 c16 c17 c18 c19 c20 c21 c22 c23 c24 c25 c26 c27 c28 c29 c30 c31 c32 : Value}
    (hne : g1 ≠ g2) (h1 : Hid (w.heap[g1]? = some (.cells (x.cells d) 40 (0, 0)))) (h2 : Hid (w.heap[g2]? = some (.cells old 40 (0, 0)))) (hos : Hid (old.size = 8))
    (hd : Hid (RD w T x d)) (hi : Hid d.Inv) (hT : Hid (∀ k, T k → k < w.heap.size)) (hn : d.ops.length ≤ 1000000) (hbl : b.length = n) (hb9 : n ≤ 140737488355328) (hat : Hid (At w ba b))
    (hQ : Hid (∀ (d25 d26 d27 d28 d29 d30 d31 d32 : Value) (x' : RDx) (W : World), RD W T x' (d.withD ⟨F, true, b, 0⟩) → Below w.heap.size w W → FF ⟨#[c0, .int .i64 (F : Int), .slice ba n bc, .pointer (some ⟨g1, 0, none⟩), c4, c5, .pointer (some ⟨g2, 0, none⟩), .int .i64 d.errs, c8, c9, c10, c11, c12, c13, c14, c15, c16, c17, c18, c19, c20, c21, c22, c23, c24, d25, d26, d27, d28, d29, d30, d31, d32], []⟩ (W.setRow g2 (x'.cells (d.withD ⟨F, true, b, 0⟩))))) :
    Code.wp Try.prog ((Try.f40.body.bind (regAt 5)).getD .skip) (Nrm FF) ⟨#[c0, .int .i64 (F : Int), .slice ba n bc, .pointer (some ⟨g1, 0, none⟩), c4, c5, .pointer (some ⟨g2, 0, none⟩), c7, c8, c9, c10, c11, c12, c13, c14, c15, c16, c17, c18, c19, c20, c21, c22, c23, c24, c25, c26, c27, c28, c29, c30, c31, c32], []⟩ w := by
  conv => arg 2; whnf
  refine wp_region_alv (Wd := WdA w T g2 F d b) (Pv := pvA x d F n bc ba) (by kernel_rfl) (by kernel_rfl) ?_ ?_ ?_
  · intro L V hL
    exact WdA.one (hL 5) (drew_below w) (fun h => by rw [hL 3] at h; cases h)
  · refine ⟨?_, ?_, ?_, ?_, ?_, ?_, ?_, ?_, ?_, ?_, trivial⟩
    · intro ac w1 L hL hup hcl hW hdd hk K hK
      refine yes (want_n rfl) ?_
      refine wp_load_row 40 (.tmp 3) rfl g1 (get_keep (hk 3 (no_dst (by kernel_rfl))) rfl) 40 (x.cells d) (0, 0) _ (hW.row h1.out hne) Try.underlying40 rfl info40c ?_
      exact hK _ _ (fun _ => rfl) (fun L' V' g1' g2' g3' g4' => hW.same (g2' 3 (by decide)) (g2' 4 (by decide)) (g2' 5 (by decide)) (g2' 6 (by decide)) (g2' 8 (by decide)) (g4' 3 (by decide)) (g4' 4 (by decide)) (g4' 5 (by decide)) (g4' 6 (by decide)))
    · intro ac w1 L hL hup hcl hW hdd hk K hK
      refine yes (want_n rfl) (wp_mv _ rfl _ (get_keep (hk 1 (no_dst (by kernel_rfl))) rfl) ?_)
      exact hK _ _ (fun _ => rfl) (fun L' V' g1' g2' g3' g4' => hW.same (g2' 3 (by decide)) (g2' 4 (by decide)) (g2' 5 (by decide)) (g2' 6 (by decide)) (g2' 8 (by decide)) (g4' 3 (by decide)) (g4' 4 (by decide)) (g4' 5 (by decide)) (g4' 6 (by decide)))
    · intro ac w1 L hL hup hcl hW hdd hk K hK
      refine yes (want_n rfl) (wp_mv _ rfl _ (get_keep (hk 2 (no_dst (by kernel_rfl))) rfl) ?_)
      exact hK _ _ (fun _ => rfl) (fun L' V' g1' g2' g3' g4' => hW.same (g2' 3 (by decide)) (g2' 4 (by decide)) (g2' 5 (by decide)) (g2' 6 (by decide)) (g2' 8 (by decide)) (g4' 3 (by decide)) (g4' 4 (by decide)) (g4' 5 (by decide)) (g4' 6 (by decide)))
    · intro ac w1 L hL hup hcl hW hdd hk K hK
      have h5 : L 5 = false := not_yet hcl 9 (j := 3) (by kernel_rfl) hL
      have h4 : L 4 = false := not_yet hcl 9 (j := 3) (by kernel_rfl) hL
      have hR := hW.bel h5
      refine yes (want_n rfl) ?_
      refine wp_callv 56 _ _ rfl _ Try.func56 rfl rfl _ (args1 (hdd 2 _ 27 rfl rfl rfl)) (copy_any ba bc n b w1 hbl hb9 (hat.out.below hR)) ?_
      rintro e w' ⟨v, rfl, ho, hb⟩
      obtain ⟨a', c', ev, hc', _⟩ := ho.form
      subst ev
      refine ⟨_, rfl, hK _ w' (fun _ => trivial) (fun L' V' g1' g2' g3' g4' => WdA.one ((g2' 5 (by decide)).trans h5) (bnext hR hb) (fun _ => ⟨a', c', g3' (by simp), FA.own ho (fun k hk' => Nat.lt_of_lt_of_le (hT.out k hk') hR.size), fun h9 => by rw [g2' 4 (by decide), h4] at h9; cases h9⟩))⟩
    · intro ac w1 L hL hup hcl hW hdd hk K hK
      have h5 : L 5 = false := not_yet hcl 9 (j := 4) (by kernel_rfl) hL
      have h3 : L 3 = true := up_of hup (by kernel_rfl)
      obtain ⟨a', c', hv3, hfa, _⟩ := hW.cop h5 h3
      have hR := hW.bel h5
      have e26 : ac.tmps[26]?.getD undef = (.int .i64 (F : Int) : Value) := slot (hdd 1 _ 26 rfl rfl rfl)
      have e28 : ac.tmps[28]?.getD undef = (.slice a' b.length c' : Value) := slot ((valAt_of (i := 3) rfl rfl).symm.trans hv3)
      refine yes (want_n rfl) ?_
      have hv := hid (hK (.agg #[.int .i64 (F : Int), .bool false, .int .i64 0, .slice a' b.length c']) w1 (fun _ => trivial) (fun L' V' g1' g2' g3' g4' => WdA.one ((g2' 5 (by decide)).trans h5) hR (fun _ => ⟨a', c', (g4' 3 (by decide)).trans hv3, hfa, fun _ => g3' (by simp)⟩)))
      clear hK hW hL hup hdd hk hcl hbl
      go_simp
      exact kq hv.out rfl
    · intro ac w1 L hL hup hcl hW hdd hk K hK
      have h4 : L 4 = true := up_of hup (by kernel_rfl)
      have h3 : L 3 = true := needs_up hcl 9 4 3 (by kernel_rfl) h4
      have h6 : L 6 = false := not_yet hcl 9 (j := 5) (by kernel_rfl) hL
      have h8 : L 8 = false := not_yet hcl 9 (j := 5) (by kernel_rfl) hL
      obtain ⟨a', c', hv3, hfa, hv4⟩ := hW.cop hL h3
      have hR := hW.bel hL
      have e29 : ac.tmps.getD 29 undef = (.agg #[.int .i64 (F : Int), .bool false, .int .i64 0, .slice a' b.length c'] : Value) := (valAt_of (i := 4) rfl rfl).symm.trans (hv4 h4)
      have kW := rwith_any T x d ⟨⟨F, true, b, 0⟩, a', c'⟩ w1 (hd.out.below hR) hi.out hfa (fun k hk' => Nat.lt_of_lt_of_le (hT.out k hk') hR.size) hn
      dsimp only [Bool.not_true] at kW
      refine yes (want_n rfl) ?_
      refine wp_callv 58 _ _ rfl _ Try.func58 rfl rfl _ (args2 (hdd 0 _ 25 rfl rfl rfl) e29) kW ?_
      rintro e w' ⟨x', rfl, hrd, hb⟩
      exact ⟨_, rfl, hK _ w' (fun _ => trivial) (fun L' V' g1' g2' g3' g4' => WdA.two g1' ⟨x', w', hrd, bnext hR hb, g3' (by simp), (fun h9 => by rw [g2' 6 (by decide), h6] at h9; cases h9), by rw [g2' 8 (by decide), h8]; rfl⟩)⟩
    · intro ac w1 L hL hup hcl hW hdd hk K hK
      have h5 : L 5 = true := up_of hup (by kernel_rfl)
      have h8 : L 8 = false := not_yet hcl 9 (j := 6) (by kernel_rfl) hL
      obtain ⟨x', W, hrd, hb, hv5, _, hw1⟩ := hW.res h5
      have e30 : ac.tmps[30]?.getD undef = (.tuple #[.agg (x'.cells (d.withD ⟨F, true, b, 0⟩)), .int .i64 d.errs] : Value) := slot ((valAt_of (i := 5) rfl rfl).symm.trans hv5)
      refine yes (want_n rfl) ?_
      have hv := hid (hK (.agg (x'.cells (d.withD ⟨F, true, b, 0⟩))) w1 (fun _ => trivial) (fun L' V' g1' g2' g3' g4' => WdA.two ((g2' 5 (by decide)).trans h5) ⟨x', W, hrd, hb, (g4' 5 (by decide)).trans hv5, fun _ => g3' (by simp), by rw [g2' 8 (by decide)]; exact hw1⟩))
      clear hK hW hL hup hdd hk hcl hw1
      go_simp
      exact kq hv.out rfl
    · intro ac w1 L hL hup hcl hW hdd hk K hK
      have h5 : L 5 = true := up_of hup (by kernel_rfl)
      obtain ⟨x', W, hrd, hb, hv5, h66, hw1⟩ := hW.res h5
      have e30 : ac.tmps[30]?.getD undef = (.tuple #[.agg (x'.cells (d.withD ⟨F, true, b, 0⟩)), .int .i64 d.errs] : Value) := slot ((valAt_of (i := 5) rfl rfl).symm.trans hv5)
      refine yes (want_n rfl) ?_
      have hv := hid (hK (.int .i64 d.errs) w1 (fun _ => rfl) (fun L' V' g1' g2' g3' g4' => hW.same (g2' 3 (by decide)) (g2' 4 (by decide)) (g2' 5 (by decide)) (g2' 6 (by decide)) (g2' 8 (by decide)) (g4' 3 (by decide)) (g4' 4 (by decide)) (g4' 5 (by decide)) (g4' 6 (by decide))))
      clear hK hW hL hup hdd hk hcl hw1 h66
      go_simp
      exact kq hv.out rfl
    · intro ac w1 L hL hup hcl hW hdd hk K hK
      have h6 : L 6 = true := up_of hup (by kernel_rfl)
      have h5 : L 5 = true := needs_up hcl 9 6 5 (by kernel_rfl) h6
      obtain ⟨x', W, hrd, hb, hv5, hv6, hw1⟩ := hW.res h5
      rw [hL] at hw1
      simp only [Bool.false_eq_true, if_false] at hw1
      subst hw1
      refine yes (want_n rfl) ?_
      refine wp_store_row 40 (.tmp 6) (.tmp 31) rfl g2 (x'.cells (d.withD ⟨F, true, b, 0⟩)) (get_keep (hk 6 (no_dst (by kernel_rfl))) rfl) ((valAt_of (i := 6) rfl rfl).symm.trans (hv6 h6)) 40 old (row_b h2.out hb) info40c (by rw [hos.out]; rfl) (cells_all _ _) ?_
      exact hK _ _ (fun h => absurd rfl h) (fun L' V' g1' g2' g3' g4' => WdA.two ((g2' 5 (by decide)).trans h5) ⟨x', w1, hrd, hb, (g4' 5 (by decide)).trans hv5, fun _ => (g4' 6 (by decide)).trans (hv6 h6), by rw [g1']; rfl⟩)
    · intro ac w1 L hL hup hcl hW hdd hk K hK
      refine yes (want_n rfl) (wp_as _ rfl _ (hdd 7 _ 32 rfl rfl rfl) ?_)
      exact hK _ _ (fun _ => rfl) (fun L' V' g1' g2' g3' g4' => hW.same (g2' 3 (by decide)) (g2' 4 (by decide)) (g2' 5 (by decide)) (g2' 6 (by decide)) (g2' 8 (by decide)) (g4' 3 (by decide)) (g4' 4 (by decide)) (g4' 5 (by decide)) (g4' 6 (by decide)))
  · intro ac w1 hdf hsz hkp hval hW
    obtain ⟨L, hall, hW⟩ := hW
    obtain ⟨x', W, hrd, hb, hv5x, hv6x, hw1⟩ := hW.res (hall 5 (by decide))
    clear hv5x hv6x
    rw [hall 8 (by decide)] at hw1
    simp only [if_true] at hw1
    subst hw1
    obtain ⟨ff, hf⟩ : ∃ ff, ff = fun d => ac.tmps.getD d undef := ⟨_, rfl⟩
    have h7 : ff 7 = .int .i64 d.errs := by rw [hf]; exact hval 9 _ 7 rfl rfl
    have hfa := act_filled hdf hsz hkp
    rw [← hf] at hfa
    rw [hfa]
    clear hdf hsz hkp hval hfa hf hW
    clear ac
    simp only [fillAll, List.set_cons_zero, List.set_cons_succ, h7]
    exact hQ.out _ _ _ _ _ _ _ _ x' W hrd hb

set_option maxRecDepth 100000 in
set_option maxHeartbeats 4000000 in
theorem rappend_any (T : Nat → Prop) (x : RDx) (d : Dsk) (f : Int) (ba : Option Addr) (n bc : Nat) (b : List UInt8) (w : World) (hd : RD w T x d) (hi : d.Inv) (hT : ∀ k, T k → k < w.heap.size) (hn : d.ops.length ≤ 1000000) (hbl : b.length = n) (hb9 : n ≤ 1000000) (hat : At w ba b) :
    Calls Try.prog 40 #[.agg (x.cells d), .int .i64 f, .slice ba n bc] w fun e w' => ∃ x' : RDx, e = .returned (.tuple #[.agg (x'.cells (d.appD f b)), .int .i64 (d.appE f b)]) ∧ RD w' T x' (d.appD f b) ∧ Below w.heap.size w w' := by
  obtain ⟨W0, hW0⟩ : ∃ W0, W0 = ((w.alloc (.cells (x.cells d) 40)).alloc (.cells #[.slice none 0 0, .slice none 0 0, .slice none 0 0, .slice none 0 0, .bool false, .int .i64 0, .int .i64 0, .int .i64 0] 40)) := ⟨_, rfl⟩
  have b1 := below_lit w (.cells (x.cells d) 40)
  have b2 := below_lit (w.alloc (.cells (x.cells d) 40)) (.cells #[.slice none 0 0, .slice none 0 0, .slice none 0 0, .slice none 0 0, .bool false, .int .i64 0, .int .i64 0, .int .i64 0] 40)
  have bl : Below w.heap.size w W0 := by rw [hW0]; exact bnext b1 b2
  have r0 : W0.heap[w.heap.size]? = some (.cells (x.cells d) 40 (0, 0)) := by rw [hW0]; exact row_b (heap_alloc_new w _) b2
  have r1 : W0.heap[w.heap.size + 1]? = some (.cells #[.slice none 0 0, .slice none 0 0, .slice none 0 0, .slice none 0 0, .bool false, .int .i64 0, .int .i64 0, .int .i64 0] 40 (0, 0)) := by rw [hW0, ← size_lit w (.cells (x.cells d) 40)]; exact heap_alloc_new _ _
  have hz : w.heap.size + 1 < W0.heap.size := (Array.getElem?_eq_some_iff.1 r1).1
  clear b1 b2
  obtain ⟨T2, hT2⟩ : ∃ T2 : Nat → Prop, T2 = fun b => T b ∨ b = w.heap.size + 1 := ⟨_, rfl⟩
  have hd2 : RD W0 T2 x d := by rw [hT2]; exact (hd.turn (fun b hb => hb.elim .inl (fun e => .inr (by omega)))).below bl
  have hT2b : ∀ b, T2 b → b < W0.heap.size := fun b hb => by rw [hT2] at hb; exact hb.elim (fun e => Nat.lt_of_lt_of_le (hT b e) bl.size) (fun e => by omega)
  have fin : ∀ W1 x' D, Below W0.heap.size W0 W1 → RD W1 T2 x' D → RD (W1.setRow (w.heap.size + 1) (x'.cells D)) T x' D ∧ Below w.heap.size w (W1.setRow (w.heap.size + 1) (x'.cells D)) := fun W1 x' D hb h =>
    ⟨(h.kp ((kp_setRow (S := fun b => b = w.heap.size + 1) (Kp.refl _ W1) rfl _).more (fun k e => by rw [hT2]; exact .inr e))).turn (fun k hk => .inl (by rw [hT2]; exact .inl hk)), below_setRow (bnext bl hb) (by omega) _⟩
  replace r0 := hid r0
  replace r1 := hid r1
  replace hd := hid hd
  replace hd2 := hid hd2
  replace hT2 := hid hT2
  replace fin := hid fin
  have hat0 := hid (hat.below bl)
  replace hat := hid hat
  by_cases hb : bad f
  · have e1 : d.appD f b = d := by unfold Dsk.appD; rw [if_pos hb]
    have e2 : d.appE f b = 2 := by unfold Dsk.appE; rw [if_pos hb]
    replace e1 := hid e1
    replace e2 := hid e2
    replace hbl := hid hbl
    rcases (show f < 0 ∨ 3 ≤ f by unfold bad at hb; omega) with h1 | h1
    · have d1 : decide (f < 0) = true := decide_eq_true h1
      clear hb
      go_enter Try.func40, Try.ntmps40
      go_upto_region 2 with fail
      rw [← hW0]
      replace hW0 := hid hW0
      go_wp2_with (first
        | (refine wpList_load_row rfl 40 (.tmp 3) rfl w.heap.size rfl 40 (x.cells d) (0, 0) _ r0.out Try.underlying40 rfl info40c ?_)
        | (refine wpList_store_row rfl 40 (.tmp 6) (.tmp 14) rfl (w.heap.size + 1) (x.cells d) rfl rfl 40 _ r1.out info40c rfl (cells_all _ _) ?_))
      (try simp only [Exit.inBlock, Exit.then])
      refine bodyPost_ret (results_row_tmp rfl _ _ (w.heap.size + 1) _ _ rfl (setRow_heap _ _ _ _ _ _ r1.out) rfl rfl) rfl ?_
      exact ⟨x, by rw [e1.out, e2.out]; rfl, by rw [e1.out]; exact (fin.out W0 x d (Below.refl _ _) hd2.out).1, (fin.out W0 x d (Below.refl _ _) hd2.out).2⟩
    · have d1 : decide (f < 0) = false := decide_eq_false (by omega)
      have d2 : decide (3 ≤ f) = true := decide_eq_true h1
      clear hb
      go_enter Try.func40, Try.ntmps40
      go_upto_region 2 with fail
      rw [← hW0]
      replace hW0 := hid hW0
      go_wp2_with (first
        | (refine wpList_load_row rfl 40 (.tmp 3) rfl w.heap.size rfl 40 (x.cells d) (0, 0) _ r0.out Try.underlying40 rfl info40c ?_)
        | (refine wpList_store_row rfl 40 (.tmp 6) (.tmp 14) rfl (w.heap.size + 1) (x.cells d) rfl rfl 40 _ r1.out info40c rfl (cells_all _ _) ?_))
      (try simp only [Exit.inBlock, Exit.then])
      refine bodyPost_ret (results_row_tmp rfl _ _ (w.heap.size + 1) _ _ rfl (setRow_heap _ _ _ _ _ _ r1.out) rfl rfl) rfl ?_
      exact ⟨x, by rw [e1.out, e2.out]; rfl, by rw [e1.out]; exact (fin.out W0 x d (Below.refl _ _) hd2.out).1, (fin.out W0 x d (Below.refl _ _) hd2.out).2⟩
  · obtain ⟨F, hF, rfl⟩ := not_bad hb
    have i0 : ¬ (F : Int) < 0 := by omega
    have i3 : ¬ (3 : Int) ≤ (F : Int) := by omega
    have hcur : d.cur F = runs d.ops d.dur F := hi.now F hF
    have hsh : (d.cur F).length ≤ 1048576 := hi.curShort F hF
    have kN := now_any T2 x d W0 hd2.out hi hT2b hn
    have hlen : Hid ((runs d.ops d.dur F).length = (d.cur F).length) := hid (by rw [hcur])
    have e1 : 1048576 < (d.cur F).length + n → d.appD (F : Int) b = d ∧ d.appE (F : Int) b = 5 := fun h => by
      have h9 : 1048576 < (d.cur (F : Int).toNat).length + b.length := by rw [Int.toNat_natCast, hbl]; exact h
      unfold Dsk.appD Dsk.appE
      rw [if_neg hb, if_neg hb, if_pos h9, if_pos h9]; exact ⟨rfl, rfl⟩
    have e2 : ¬ 1048576 < (d.cur F).length + n → d.appD (F : Int) b = (d.withD ⟨F, true, b, 0⟩) ∧ d.appE (F : Int) b = d.errs := fun h => by
      have h9 : ¬ 1048576 < (d.cur (F : Int).toNat).length + b.length := by rw [Int.toNat_natCast, hbl]; exact h
      unfold Dsk.appD Dsk.appE Dsk.withD
      rw [if_neg hb, if_neg hb, if_neg h9, if_neg h9, Int.toNat_natCast]; exact ⟨rfl, rfl⟩
    replace e1 := hid e1
    replace e2 := hid e2
    rw [← hlen.out] at hsh
    replace hcur := hid hcur
    have hbl' := hbl
    replace hbl := hid hbl
    replace hbl' := hid hbl'
    clear hb
    go_enter Try.func40, Try.ntmps40
    go_upto_region 3 with fail
    rw [← hW0]
    replace hW0 := hid hW0
    go_wp2_with (refine wpList_load_row rfl 40 (.tmp 3) rfl w.heap.size rfl 40 (x.cells d) (0, 0) _ r0.out Try.underlying40 rfl info40c ?_)
    refine kN.mono ?_
    clear kN
    rintro e w1 ⟨a0, c0, a1, c1, a2, c2, rfl, f0, f1, f2, hb1⟩
    obtain ⟨fa, fc, hix, ff⟩ := ix_file f0 f1 f2 F hF
    have hix1 := hix w1
    have q0 := row_b r0.out hb1
    have q1 := row_b r1.out hb1
    have hd3 := hid (hd2.out.below hb1)
    have hat1 := hid (hat0.out.below hb1)
    replace hix := hid hix
    replace f0 := hid f0
    replace f1 := hid f1
    replace f2 := hid f2
    replace ff := hid ff
    replace q0 := hid q0
    replace q1 := hid q1
    generalize hLL : (runs d.ops d.dur F).length = LN at *
    replace hLL := hid hLL
    by_cases hm : 1048576 < LN + n
    · have dm : (1048576 : Int) < (LN : Int) + (n : Int) := by omega
      obtain ⟨z1, z2⟩ := e1.out (by rw [← hlen.out]; exact hm)
      replace z1 := hid z1
      replace z2 := hid z2
      go_wp2_with (first
        | (refine wpList_load_row rfl 40 (.tmp 3) rfl w.heap.size rfl 40 (x.cells d) (0, 0) _ q0.out Try.underlying40 rfl info40c ?_)
        | (refine wpList_store_row rfl 40 (.tmp 6) (.tmp 24) rfl (w.heap.size + 1) (x.cells d) rfl rfl 40 _ q1.out info40c rfl (cells_all _ _) ?_))
      (try simp only [Exit.inBlock, Exit.then])
      refine bodyPost_ret (results_row_tmp rfl _ _ (w.heap.size + 1) _ _ rfl (setRow_heap _ _ _ _ _ _ q1.out) rfl rfl) rfl ?_
      exact ⟨x, by rw [z1.out, z2.out]; rfl, by rw [z1.out]; exact (fin.out w1 x d hb1 hd3.out).1, (fin.out w1 x d hb1 hd3.out).2⟩
    · have dm : ¬ (1048576 : Int) < (LN : Int) + (n : Int) := by omega
      obtain ⟨z1, z2⟩ := e2.out (by rw [← hlen.out]; exact hm)
      replace z1 := hid z1
      replace z2 := hid z2
      go_upto_region 5 with fail
      refine Code.wp_mono nrm_of ?_
      refine append_r5 (T := T2) (x := x) (d := d) (g1 := w.heap.size) (g2 := w.heap.size + 1) (F := F) (b := b) (by omega) q0 q1 (hid rfl) hd3 (hid hi) (hid (fun k hk => Nat.lt_of_lt_of_le (hT2b k hk) hb1.size)) hn hbl'.out (by omega) hat1 (hid ?_)
      intro d25 d26 d27 d28 d29 d30 d31 d32 x' W2 hrd hb2
      have hfn := fin.out W2 x' (d.withD ⟨F, true, b, 0⟩) (bnext hb1 hb2) hrd
      have s1 := row_b q1.out hb2
      replace s1 := hid s1
      replace hrd := hid hrd
      go_wp2
      refine bodyPost_ret (results_row_tmp rfl _ _ (w.heap.size + 1) _ _ rfl (setRow_heap _ _ _ _ _ _ s1.out) rfl rfl) rfl ?_
      exact ⟨x', by rw [z1.out, z2.out]; rfl, by rw [z1.out]; exact hfn.1, hfn.2⟩

end Go.Proofs.Ytpngnmogjmdmhaa
