/- The document's net: Deliver. -/
import Derived.Test.YtgjjgfppolmkoaaRefSend
namespace Go.Proofs.Ytgjjgfppolmkoaa
open Go.RowKit Go.Maps

theorem results_r4 {fn : Func} {p u v : Tmp} (h : fn.results = #[.cell p 40, .cell u 31, .tmp v]) (tmps : Array Value) (w : World) (g f : Nat) (x y a b c d : Value)
    (hp : tmps.getD p undef = .pointer (some ⟨g, 0, none⟩)) (hu : tmps.getD u undef = .pointer (some ⟨f, 0, none⟩)) (hg : RBlk w g x y) (hf : PBlk w f a b c d) :
    (results fn tmps).run Try.prog w = .ok (.tuple #[.agg #[x, y], .agg #[a, b, c, d], tmps.getD v undef]) w := by
  have hp' : tmps[p]?.getD undef = .pointer (some ⟨g, 0, none⟩) := by simpa using hp
  have hu' : tmps[u]?.getD undef = .pointer (some ⟨f, 0, none⟩) := by simpa using hu
  simp [results, h, hp', hu', asAddr, run_loadVar_row (P := Try.prog) w g 40 40 _ (0, 0) _ hg Try.underlying40 rfl info40, run_loadVar_row (P := Try.prog) w f 31 31 _ (0, 0) _ hf Try.underlying31 rfl info31]

set_option maxRecDepth 100000 in
set_option maxHeartbeats 400000 in
theorem rdel_no (a : Option Addr) (n c : Nat) (last k : Int) (R : List Pk) (w : World) (hR : R.length = n) (h : RAt w a R) (hn : n ≤ 256) (hno : placeP R k = -1) :
    Calls Try.prog 20 #[.agg #[.slice a n c, .int .i64 last], .int .i64 k] w fun e w' => e = .returned (.tuple #[.agg #[.slice a n c, .int .i64 last], .agg #[.int .i64 0, .int .i64 0, .int .i64 0, .slice none 0 0], .int .i64 80]) ∧ Below w.heap.size w w' := by
  have B := bnext (bnext (below_lit w (.cells #[.slice a n c, .int .i64 last] 40)) (below_lit _ (.cells #[.slice none 0 0, .int .i64 0] 40))) (below_lit _ (.cells #[.int .i64 0, .int .i64 0, .int .i64 0, .slice none 0 0] 31))
  have r := (RBlk.new (w.alloc (.cells #[.slice a n c, .int .i64 last] 40)) (.slice none 0 0) (.int .i64 0)).below (below_lit _ (.cells #[.int .i64 0, .int .i64 0, .int .i64 0, .slice none 0 0] 31))
  have r0 := ((RBlk.new w (.slice a n c) (.int .i64 last)).below (below_lit _ (.cells #[.slice none 0 0, .int .i64 0] 40))).below (below_lit _ (.cells #[.int .i64 0, .int .i64 0, .int .i64 0, .slice none 0 0] 31))
  have p := PBlk.new ((w.alloc (.cells #[.slice a n c, .int .i64 last] 40)).alloc (.cells #[.slice none 0 0, .int .i64 0] 40)) (.int .i64 0) (.int .i64 0) (.int .i64 0) (.slice none 0 0)
  rw [World.size_alloc] at r
  rw [World.size_alloc, World.size_alloc] at p
  have h2 := h.below B
  replace r0 := hid r0
  replace r := hid r
  replace p := hid p
  replace B := hid B
  replace hR := hid hR
  replace hno := hid hno
  go_enter Try.func20, Try.ntmps20
  go_wp2_with fail
  generalize ((w.alloc (.cells #[.slice a n c, .int .i64 last] 40)).alloc (.cells #[.slice none 0 0, .int .i64 0] 40)).alloc (.cells #[.int .i64 0, .int .i64 0, .int .i64 0, .slice none 0 0] 31) = w2 at *
  refine (rfind_any a n c last k R _ hR.out h2 (by omega)).mono ?_
  rintro e w3 ⟨rfl, b3⟩
  rw [hno.out]
  have r3 := r.out.below b3
  have r03 := r0.out.below b3
  have p3 := p.out.below b3
  have r3a := r3.cell0
  have r3b := r3.cell1
  have r3f := r3.free 0
  have r3g := r3.free 1
  have r03a := r03.cell0
  have r03b := r03.cell1
  have p3a := p3.cell0
  have p3b := p3.cell1
  have p3c := p3.cell2
  have p3d := p3.cell3
  have p3f := p3.free 0
  have p3g := p3.free 1
  have p3h := p3.free 2
  have p3i := p3.free 3
  have r4 := ((r3.set0 (.slice a n c)).set1 (.int .i64 last))
  have hlt : w.heap.size + 2 < w3.heap.size := p3.lt
  have p4 := ((p3.other (w.heap.size + 1) 0 (.slice a n c) (by omega)).other (w.heap.size + 1) 1 (.int .i64 last) (by omega)).set (.int .i64 0) (.int .i64 0) (.int .i64 0) (.slice none 0 0)
  have r5 := (((r4.other (w.heap.size + 2) 0 (.int .i64 0) (by omega)).other (w.heap.size + 2) 1 (.int .i64 0) (by omega)).other (w.heap.size + 2) 2 (.int .i64 0) (by omega)).other (w.heap.size + 2) 3 (.slice none 0 0) (by omega)
  have BF := below_set4 ((((bnext B.out b3).setCell (p := ⟨w.heap.size + 1, 0, none⟩) (show w.heap.size ≤ w.heap.size + 1 by omega) (.slice a n c)).setCell (p := ⟨w.heap.size + 1, 1, none⟩) (show w.heap.size ≤ w.heap.size + 1 by omega) (.int .i64 last))) (w.heap.size + 2) (by omega) (.int .i64 0) (.int .i64 0) (.int .i64 0) (.slice none 0 0)
  replace r3 := hid r3
  replace r03 := hid r03
  replace p3 := hid p3
  replace r4 := hid r4
  replace p4 := hid p4
  replace r5 := hid r5
  replace BF := hid BF
  go_wp2
  (try simp only [Exit.inBlock, Exit.then])
  refine bodyPost_ret (results_r4 rfl _ _ (w.heap.size + 1) (w.heap.size + 2) _ _ _ _ _ _ rfl rfl r5.out p4.out) rfl ?_
  exact ⟨rfl, BF.out⟩

theorem CAt.front {w : World} {a : Option Addr} {X Y : List Value} (h : CAt w a (X ++ Y)) : CAt w a X := fun hX => by
  obtain ⟨b, o, e, hc⟩ := h (by simp [hX])
  refine ⟨b, o, e, fun i hi => ?_⟩
  rw [hc i (by rw [List.length_append]; omega)]
  simp [List.getElem_append_left hi]

theorem CAt.back {w : World} {b o : Nat} {X Y : List Value} (h : CAt w (some ⟨b, o, none⟩) (X ++ Y)) : CAt w (some ⟨b, o + X.length, none⟩) Y := fun hY => by
  obtain ⟨b', o', e, hc⟩ := h (by simp [hY])
  cases e
  refine ⟨b, o + X.length, rfl, fun i hi => ?_⟩
  have := hc (X.length + i) (by rw [List.length_append]; omega)
  rw [← Nat.add_assoc] at this
  rw [this]
  simp

theorem cells_cut (R : List Pk) (j : Nat) (hj : j < R.length) : R.flatMap Pk.cells = (R.take j).flatMap Pk.cells ++ (R[j].cells ++ (R.drop (j + 1)).flatMap Pk.cells) := by
  have e : R = R.take j ++ R[j] :: R.drop (j + 1) := by rw [← List.drop_eq_getElem_cons hj, List.take_append_drop]
  refine (congrArg (fun l => l.flatMap Pk.cells) e).trans ?_
  show List.flatMap Pk.cells (_ ++ _ :: _) = _
  rw [List.flatMap_append, List.flatMap_cons]

theorem seven_cells (w : World) (g : Nat) (u v a b c d : Value) : Kp (fun k => k = g ∨ k = g + 1 ∨ k = g + 1 + 1) w (((((((w.setCell ⟨g, 0, none⟩ u).setCell ⟨g + 1, 0, none⟩ u).setCell ⟨g + 1, 1, none⟩ v).setCell ⟨g + 1 + 1, 0, none⟩ a).setCell ⟨g + 1 + 1, 1, none⟩ b).setCell ⟨g + 1 + 1, 2, none⟩ c).setCell ⟨g + 1 + 1, 3, none⟩ d).drew := by
  refine Kp.then ?_ (drew_below _)
  refine Kp.setCell ?_ (.inr (.inr rfl)) _
  refine Kp.setCell ?_ (.inr (.inr rfl)) _
  refine Kp.setCell ?_ (.inr (.inr rfl)) _
  refine Kp.setCell ?_ (.inr (.inr rfl)) _
  refine Kp.setCell ?_ (.inr (.inl rfl)) _
  refine Kp.setCell ?_ (.inr (.inl rfl)) _
  exact Kp.setCell (Kp.refl _ _) (.inl rfl) _

set_option maxRecDepth 100000 in
set_option maxHeartbeats 1000000 in
theorem rdel_ok (a : Option Addr) (n c : Nat) (last k : Int) (R : List Pk) (w : World) (hR : R.length = n) (h : RAt w a R) (hn : n ≤ 256) (hc : n ≤ c) (j : Nat) (hj : j < R.length) (hpl : placeP R k = j) (num fr to : Int) (qa : Option Addr) (qc len : Nat) (body : List UInt8) (hq : R[j] = ⟨num, fr, to, qa, qc, body⟩) (hl : body.length = len) :
    Calls Try.prog 20 #[.agg #[.slice a n c, .int .i64 last], .int .i64 k] w fun e w' => ∃ a' c', e = .returned (.tuple #[.agg #[.slice a' (n - 1) c', .int .i64 last], .agg #[.int .i64 num, .int .i64 fr, .int .i64 to, .slice qa len qc], .int .i64 0]) ∧ RAt w' a' (R.take j ++ R.drop (j + 1)) ∧ (∀ x, a' = some x → w.heap.size ≤ x.block ∧ x.block < w'.heap.size) ∧ n - 1 ≤ c' ∧ Below w.heap.size w w' := by
  obtain ⟨b, o, e⟩ := h.place (by intro e; rw [e] at hj; simp at hj)
  subst e
  have h00 := h
  obtain ⟨i0, hi0, hz0, hz1, hz2⟩ := info_parts info31z
  have hjn : j < n := by omega
  have B := bnext (bnext (below_lit w (.cells #[.slice (some ⟨b, o, none⟩) n c, .int .i64 last] 40)) (below_lit _ (.cells #[.slice none 0 0, .int .i64 0] 40))) (below_lit _ (.cells #[.int .i64 0, .int .i64 0, .int .i64 0, .slice none 0 0] 31))
  have r := (RBlk.new (w.alloc (.cells #[.slice (some ⟨b, o, none⟩) n c, .int .i64 last] 40)) (.slice none 0 0) (.int .i64 0)).below (below_lit _ (.cells #[.int .i64 0, .int .i64 0, .int .i64 0, .slice none 0 0] 31))
  have r0 := ((RBlk.new w (.slice (some ⟨b, o, none⟩) n c) (.int .i64 last)).below (below_lit _ (.cells #[.slice none 0 0, .int .i64 0] 40))).below (below_lit _ (.cells #[.int .i64 0, .int .i64 0, .int .i64 0, .slice none 0 0] 31))
  have p := PBlk.new ((w.alloc (.cells #[.slice (some ⟨b, o, none⟩) n c, .int .i64 last] 40)).alloc (.cells #[.slice none 0 0, .int .i64 0] 40)) (.int .i64 0) (.int .i64 0) (.int .i64 0) (.slice none 0 0)
  rw [World.size_alloc] at r
  rw [World.size_alloc, World.size_alloc] at p
  have h2 := h.below B
  replace r0 := hid r0
  replace r := hid r
  replace p := hid p
  replace B := hid B
  replace hR := hid hR
  replace hpl := hid hpl
  go_enter Try.func20, Try.ntmps20
  go_wp2_with fail
  generalize ((w.alloc (.cells #[.slice (some ⟨b, o, none⟩) n c, .int .i64 last] 40)).alloc (.cells #[.slice none 0 0, .int .i64 0] 40)).alloc (.cells #[.int .i64 0, .int .i64 0, .int .i64 0, .slice none 0 0] 31) = w2 at *
  refine (rfind_any (some ⟨b, o, none⟩) n c last k R _ hR.out h2 (by omega)).mono ?_
  rintro e w3 ⟨rfl, b3⟩
  rw [hpl.out]
  have r3 := r.out.below b3
  have r03 := r0.out.below b3
  have p3 := p.out.below b3
  have hlt : w.heap.size + 2 < w3.heap.size := p3.lt
  have h3 := h2.below b3
  have r03a := r03.cell0
  obtain ⟨x0, x1, x2, x3⟩ := h3.packet j hj
  have hcut := h3.row
  rw [cells_cut R j hj] at hcut
  have hX := hcut.front
  have hY := (hcut.back).back
  have hXl : ((R.take j).flatMap Pk.cells).length = j * 4 := by rw [cells_len, List.length_take, Nat.min_eq_left (Nat.le_of_lt hj)]
  have hYl : ((R.drop (j + 1)).flatMap Pk.cells).length = (n - (j + 1)) * 4 := by rw [cells_len, List.length_drop, hR.out]
  have hone : ∀ L : List Pk, ∀ u ∈ L.flatMap Pk.cells, u.oneCell' = true := fun L u hu => by
    obtain ⟨q, _, hq⟩ := List.mem_flatMap.1 hu
    simp [Pk.cells] at hq
    rcases hq with rfl | rfl | rfl | rfl <;> rfl
  rw [hq] at x0 x1 x2 x3 hY
  simp only at x0 x1 x2 x3
  rw [hl] at x3
  have hq4 : (⟨num, fr, to, qa, qc, body⟩ : Pk).cells.length = 4 := rfl
  rw [hXl, hq4] at hY
  replace hq := hid hq
  replace hl := hid hl
  replace hXl := hid hXl
  replace hYl := hid hYl
  replace hone := hid hone
  replace r3 := hid r3
  replace r03 := hid r03
  replace p3 := hid p3
  replace hcut := hid hcut
  have bl4 := below_lit w3 (.cells #[.int .i64 num, .int .i64 fr, .int .i64 to, .slice qa len qc] 31)
  have r4 := r3.out.below bl4
  have r04 := r03.out.below bl4
  have p4 := p3.out.below bl4
  have P4 := PBlk.new w3 (.int .i64 num) (.int .i64 fr) (.int .i64 to) (.slice qa len qc)
  have hX4 : CAt (w3.alloc (.cells #[.int .i64 num, .int .i64 fr, .int .i64 to, .slice qa len qc] 31)) (some ⟨b, o, none⟩) ((R.take j).flatMap Pk.cells) := hX.below bl4
  replace r4 := hid r4
  have r04a := r04.cell0
  replace r04 := hid r04
  replace p4 := hid p4
  replace P4 := hid P4
  go_wp2_with (at_builtin; refine Hid.out ?_)
  refine hid ?_
  refine wpList_cat _ rfl (.tmp 22) (.tmp 26) 34 rfl _ 31 i0 _ 4 48 Try.underlying34 hi0 hz0 hz1 hz2 rfl (by omega) (.slice none 0 0) 0 [] rfl (World.ownsRow_nil _ _ _ _) (some ⟨b, o, none⟩) j _ ((R.take j).flatMap Pk.cells) rfl hXl.out hX4 (hone.out _) (by unfold maxLen; omega) (by omega) (Nat.le_refl _) ?_
  intro v6 w6 hr6 hg6 hv6
  have b6 := (Below.refl _ (w3.alloc (.cells #[.int .i64 num, .int .i64 fr, .int .i64 to, .slice qa len qc] 31))).grown hg6 (Nat.le_refl _) (fun k hk => by cases hk)
  have r6 := r4.out.below b6
  have r06 := r04.out.below b6
  have p6 := p4.out.below b6
  have P6 := P4.out.below b6
  have r06a := r06.cell0
  have hY6 := (hY.below bl4).below b6
  rw [Nat.zero_add, List.nil_append] at hr6
  replace hr6 := hid hr6
  replace r6 := hid r6
  replace r06 := hid r06
  replace p6 := hid p6
  replace P6 := hid P6
  have hY7 : CAt w6 (some ⟨b, o + (j + 1) * 4, none⟩) ((R.drop (j + 1)).flatMap Pk.cells) := by
    rw [show o + (j + 1) * 4 = o + j * 4 + 4 by omega]
    exact hY6
  go_wp2_with (at_builtin; refine Hid.out ?_)
  all_goals
    (try refine hid ?_)
    refine wpList_cat _ rfl (.tmp 28) (.tmp 33) 34 rfl (w3.alloc (.cells #[.int .i64 num, .int .i64 fr, .int .i64 to, .slice qa len qc] 31)).heap.size 31 i0 _ 4 48 Try.underlying34 hi0 hz0 hz1 hz2 rfl (by omega) v6 j ((R.take j).flatMap Pk.cells) rfl hr6.out _ (n - (j + 1)) _ ((R.drop (j + 1)).flatMap Pk.cells) rfl hYl.out (by first | exact hY7 | exact fun hne => absurd (by rw [List.drop_eq_nil_of_le (by rw [hR.out]; omega)]; rfl) hne) (hone.out _) (by unfold maxLen; omega) (by omega) b6.size ?_
    intro v8 w8 hr8 hg8 hv8
    rw [show j + (n - (j + 1)) = n - 1 by omega] at hr8
    obtain ⟨a8, c8, hv8e, hc8⟩ := owns_form hr8
    subst hv8e
    have k8 := Kp.grown hg8
    have hown6 : ∀ k, v6.ownBlock = some k → w3.heap.size + 1 ≤ k := fun k hk => by have := (World.ownsRow.lt hr6.out k hk).1; rw [World.size_alloc] at this; exact this
    have r08 := r06.out.kp k8 (fun e => by have := hown6 _ e; omega)
    have r8 := r6.out.kp k8 (fun e => by have := hown6 _ e; omega)
    have p8 := p6.out.kp k8 (fun e => by have := hown6 _ e; omega)
    have P8 := P6.out.kp k8 (fun e => by have := hown6 _ e; omega)
    have r08c := r08.cell0
    have r08f := r08.free 0
    have r09 := r08.set0 (.slice a8 (n - 1) c8)
    have r9 := r8.other w.heap.size 0 (.slice a8 (n - 1) c8) (by omega)
    have p9 := p8.other w.heap.size 0 (.slice a8 (n - 1) c8) (by omega)
    have P9 := P8.other w.heap.size 0 (.slice a8 (n - 1) c8) (by omega)
    have y0 := r09.cell0
    have y1 := r09.cell1
    have y2 := r9.cell0
    have y3 := r9.cell1
    have y4 := r9.free 0
    have y5 := r9.free 1
    have y6 := p9.cell0
    have y7 := p9.cell1
    have y8 := p9.cell2
    have y9 := p9.cell3
    have z0 := p9.free 0
    have z1 := p9.free 1
    have z2 := p9.free 2
    have z3 := p9.free 3
    have z4 := P9.cell0
    have z5 := P9.cell1
    have z6 := P9.cell2
    have z7 := P9.cell3
    have hne1 : w3.heap.size ≠ w.heap.size + 1 := by omega
    have hne2 : w3.heap.size ≠ w.heap.size + 1 + 1 := by omega
    have hne3 : w.heap.size ≠ w.heap.size + 1 := by omega
    have hne4 : w.heap.size ≠ w.heap.size + 1 + 1 := by omega
    have hne5 : w.heap.size + 1 ≠ w.heap.size + 1 + 1 := by omega
    replace r08 := hid r08
    replace r8 := hid r8
    replace p8 := hid p8
    replace P8 := hid P8
    replace r09 := hid r09
    replace r9 := hid r9
    replace p9 := hid p9
    replace P9 := hid P9
    go_wp2_with fail
    go_region
    have r2f := ((((((r9.out.set0 (.slice a8 (n - 1) c8)).set1 (.int .i64 last)).other (w.heap.size + 1 + 1) 0 (.int .i64 num) (by omega)).other (w.heap.size + 1 + 1) 1 (.int .i64 fr) (by omega)).other (w.heap.size + 1 + 1) 2 (.int .i64 to) (by omega)).other (w.heap.size + 1 + 1) 3 (.slice qa len qc) (by omega)).below (drew_below _)
    have p2f := (((p9.out.other (w.heap.size + 1) 0 (.slice a8 (n - 1) c8) (by omega)).other (w.heap.size + 1) 1 (.int .i64 last) (by omega)).set (.int .i64 num) (.int .i64 fr) (.int .i64 to) (.slice qa len qc)).below (drew_below _)
    have kF := seven_cells w8 w.heap.size (.slice a8 (n - 1) c8) (.int .i64 last) (.int .i64 num) (.int .i64 fr) (.int .i64 to) (.slice qa len qc)
    have B6 := bnext (bnext (bnext B.out b3) bl4) b6
    have hs3 := bl4.size
    have hs6 := b6.size
    have hs8 := k8.size
    have B8 := B6.trans (k8.below (base := w.heap.size) (fun k hk => by have := hown6 k hk; omega) (by omega))
    have BF := B8.trans (kF.below (base := w.heap.size) (fun k hk => by omega) (by omega))
    have hsF := kF.size
    have hrl : ∀ x, a8 = some x → w3.heap.size + 1 ≤ x.block ∧ x.block < w8.heap.size := fun x hx => by
      subst hx
      have := World.ownsRow.lt hr8 x.block rfl
      rw [World.size_alloc] at this
      exact this
    have hrow := (owns_cat hr8).kp kF (fun x hx => by
      intro e
      have := (hrl x hx).1
      omega)
    generalize (((((((w8.setCell ⟨w.heap.size, 0, none⟩ (.slice a8 (n - 1) c8)).setCell ⟨w.heap.size + 1, 0, none⟩ (.slice a8 (n - 1) c8)).setCell ⟨w.heap.size + 1, 1, none⟩ (.int .i64 last)).setCell ⟨w.heap.size + 1 + 1, 0, none⟩ (.int .i64 num)).setCell ⟨w.heap.size + 1 + 1, 1, none⟩ (.int .i64 fr)).setCell ⟨w.heap.size + 1 + 1, 2, none⟩ (.int .i64 to)).setCell ⟨w.heap.size + 1 + 1, 3, none⟩ (.slice qa len qc)).drew = wF at *
    replace r2f := hid r2f
    replace p2f := hid p2f
    replace BF := hid BF
    go_wp2
    (try simp only [Exit.inBlock, Exit.then])
    refine bodyPost_ret (results_r4 rfl _ _ (w.heap.size + 1) (w.heap.size + 1 + 1) _ _ _ _ _ _ rfl rfl r2f.out p2f.out) rfl ?_
    refine ⟨a8, c8, rfl, ⟨?_, ?_⟩, ?_, hc8, BF.out⟩
    · rw [List.flatMap_append]
      exact hrow
    · intro q hq'
      refine (h00.below BF.out).body q ?_
      rcases List.mem_append.1 hq' with h' | h'
      · exact List.mem_of_mem_take h'
      · exact List.mem_of_mem_drop h'
    · intro x hx
      have := hrl x hx
      omega
end Go.Proofs.Ytgjjgfppolmkoaa
