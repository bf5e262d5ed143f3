/- The document's net: put. -/
import Derived.Test.YtgjjgfppolmkoaaRefFind
namespace Go.Proofs.Ytgjjgfppolmkoaa
open Go.RowKit Go.Maps

theorem info40 : (Try.prog.info? 40).map (·.size) = some 2 := by kernel_rfl

theorem results_r3 {fn : Func} {p u v : Tmp} (h : fn.results = #[.cell p 40, .tmp u, .tmp v]) (tmps : Array Value) (w : World) (g : Nat) (x y : Value)
    (hp : tmps.getD p undef = .pointer (some ⟨g, 0, none⟩)) (hg : RBlk w g x y) :
    (results fn tmps).run Try.prog w = .ok (.tuple #[.agg #[x, y], tmps.getD u undef, tmps.getD v undef]) w := by
  have hp' : tmps[p]?.getD undef = .pointer (some ⟨g, 0, none⟩) := by simpa using hp
  simp [results, h, hp', asAddr, run_loadVar_row (P := Try.prog) w g 40 40 _ (0, 0) _ hg Try.underlying40 rfl info40]

theorem RBlk.other {w : World} {g : Nat} {x y : Value} (h : RBlk w g x y) (g2 k : Nat) (v : Value) (hne : g2 ≠ g) : RBlk (w.setCell ⟨g2, k, none⟩ v) g x y := by
  unfold RBlk at *
  rw [Below.heap_setCell _ _ _ _ (show g ≠ g2 from fun e => hne e.symm)]
  exact h

theorem RBlk.kp {S : Nat → Prop} {w w' : World} {g : Nat} {x y : Value} (h : RBlk w g x y) (hk : Kp S w w') (hn : ¬ S g) : RBlk w' g x y := by unfold RBlk; rw [hk.block g h.lt hn]; exact h
theorem PBlk.kp {S : Nat → Prop} {w w' : World} {g : Nat} {x y z s : Value} (h : PBlk w g x y z s) (hk : Kp S w w') (hn : ¬ S g) : PBlk w' g x y z s := by unfold PBlk; rw [hk.block g h.lt hn]; exact h

set_option maxRecDepth 100000 in
set_option maxHeartbeats 400000 in
theorem rput_full (a : Option Addr) (n c : Nat) (last : Int) (x y z s : Value) (w : World) (hn : 256 ≤ n) :
    Calls Try.prog 39 #[.agg #[.slice a n c, .int .i64 last], .agg #[x, y, z, s]] w fun e w' => e = .returned (.tuple #[.agg #[.slice a n c, .int .i64 last], .int .i64 0, .int .i64 5]) ∧ Below w.heap.size w w' := by
  have d1 : decide ((256 : Int) ≤ (n : Int)) = true := decide_eq_true (by omega)
  have B := bnext (bnext (below_lit w (.cells #[.slice a n c, .int .i64 last] 40)) (below_lit _ (.cells #[x, y, z, s] 31))) (below_lit _ (.cells #[.slice a n c, .int .i64 last] 40))
  have r := RBlk.new ((w.alloc (.cells #[.slice a n c, .int .i64 last] 40)).alloc (.cells #[x, y, z, s] 31)) (.slice a n c) (.int .i64 last)
  rw [World.size_alloc, World.size_alloc] at r
  replace r := hid r
  replace B := hid B
  go_enter Try.func39, Try.ntmps39
  go_wp2
  (try simp only [Exit.inBlock, Exit.then])
  refine bodyPost_ret (results_r3 rfl _ _ (w.heap.size + 1 + 1) _ _ rfl r.out) rfl ?_
  exact ⟨rfl, B.out⟩

/-- What put leaves. -/
structure Puts (w w' : World) (R : List Pk) (last : Nat) (fr to : Int) (body : List UInt8) (v : Value) (q : Pk) : Prop where
  num : q.num = (last + 1 : Nat)
  fr_ : q.fr = fr
  to_ : q.to = to
  body_ : q.body = body
  rat : ∃ a' c', v = .slice a' (R.length + 1) c' ∧ RAt w' a' (R ++ [q]) ∧ (∀ x, a' = some x → w.heap.size ≤ x.block ∧ x.block < w'.heap.size) ∧ R.length + 1 ≤ c'
  new : ∀ x, q.a = some x → w.heap.size ≤ x.block ∧ x.block < w'.heap.size

set_option maxRecDepth 100000 in
set_option maxHeartbeats 1000000 in
theorem rput_ok (a : Option Addr) (n c last : Nat) (x fr to : Int) (ba : Option Addr) (len bc : Nat) (body : List UInt8) (R : List Pk) (w : World) (hn : n < 256) (hR : R.length = n) (h : RAt w a R) (hl : body.length = len) (hlen : len ≤ 65545) (hat : At w ba body) (hlast : last < 4611686018427387904) :
    Calls Try.prog 39 #[.agg #[.slice a n c, .int .i64 (last : Int)], .agg #[.int .i64 x, .int .i64 fr, .int .i64 to, .slice ba len bc]] w fun e w' => ∃ v q, e = .returned (.tuple #[.agg #[v, .int .i64 ((last : Int) + 1)], .int .i64 ((last : Int) + 1), .int .i64 0]) ∧ Puts w w' R last fr to body v q ∧ Below w.heap.size w w' := by
  obtain ⟨i0, hi0, hz0, hz1, hz2⟩ := info_parts info31z
  have d1 : decide ((256 : Int) ≤ (n : Int)) = false := decide_eq_false (by omega)
  have b0 := below_lit w (.cells #[.slice a n c, .int .i64 ((last : Int) + 1)] 40)
  have b1 := below_lit (w.alloc (.cells #[.slice a n c, .int .i64 ((last : Int) + 1)] 40)) (.cells #[.int .i64 ((last : Int) + 1), .int .i64 fr, .int .i64 to, .slice ba len bc] 31)
  have b2 := below_lit ((w.alloc (.cells #[.slice a n c, .int .i64 ((last : Int) + 1)] 40)).alloc (.cells #[.int .i64 ((last : Int) + 1), .int .i64 fr, .int .i64 to, .slice ba len bc] 31)) (.cells #[.slice none 0 0, .int .i64 0] 40)
  have p0 := ((RBlk.new w (.slice a n c) (.int .i64 ((last : Int) + 1))).below b1).below b2
  have p1 := (PBlk.new (w.alloc (.cells #[.slice a n c, .int .i64 ((last : Int) + 1)] 40)) (.int .i64 ((last : Int) + 1)) (.int .i64 fr) (.int .i64 to) (.slice ba len bc)).below b2
  have p2 := RBlk.new ((w.alloc (.cells #[.slice a n c, .int .i64 ((last : Int) + 1)] 40)).alloc (.cells #[.int .i64 ((last : Int) + 1), .int .i64 fr, .int .i64 to, .slice ba len bc] 31)) (.slice none 0 0) (.int .i64 0)
  rw [World.size_alloc] at p1
  rw [World.size_alloc, World.size_alloc] at p2
  have B := bnext (bnext b0 b1) b2
  have hsz : (((w.alloc (.cells #[.slice a n c, .int .i64 ((last : Int) + 1)] 40)).alloc (.cells #[.int .i64 ((last : Int) + 1), .int .i64 fr, .int .i64 to, .slice ba len bc] 31)).alloc (.cells #[.slice none 0 0, .int .i64 0] 40)).heap.size = w.heap.size + 3 := by simp
  have h3 := h.below B
  have hat3 := hat.below B
  replace hl := hid hl
  replace hR := hid hR
  replace p0 := hid p0
  replace p1 := hid p1
  replace p2 := hid p2
  clear b0 b1 b2
  go_enter Try.func39, Try.ntmps39
  go_wp2_with fail
  generalize ((w.alloc (.cells #[.slice a n c, .int .i64 ((last : Int) + 1)] 40)).alloc (.cells #[.int .i64 ((last : Int) + 1), .int .i64 fr, .int .i64 to, .slice ba len bc] 31)).alloc (.cells #[.slice none 0 0, .int .i64 0] 40) = w3 at *
  refine (copy_any ba bc len body _ hl.out (by omega) hat3).mono ?_
  rintro e w4 ⟨v4, rfl, ho4, b4⟩
  obtain ⟨qa, qc, hv4, _, _⟩ := ho4.form
  rw [hl.out] at hv4
  subst hv4
  have q0 := p0.out.below b4
  have q1 := p1.out.below b4
  have q2 := p2.out.below b4
  have h4 := h3.below b4
  have kS : Kp (fun k => k = w.heap.size + 1) w4 (w4.setCell ⟨w.heap.size + 1, 3, none⟩ (.slice qa len qc)) := Kp.setCell (S := fun k => k = w.heap.size + 1) (p := ⟨w.heap.size + 1, 3, none⟩) (Kp.refl _ _) rfl _
  have hgl : w.heap.size + 2 < w4.heap.size := q2.lt
  have B4 := bnext B b4
  have B5 : Below w.heap.size w (w4.setCell ⟨w.heap.size + 1, 3, none⟩ (.slice qa len qc)) := B4.trans (kS.below (fun k hk => by omega) (by omega))
  have f1 := q1.free 3
  have hq1c := q1.cell3
  have h5 := h.below B5
  have q05 := q0.other (w.heap.size + 1) 3 (.slice qa len qc) (by omega)
  have q25 := q2.other (w.heap.size + 1) 3 (.slice qa len qc) (by omega)
  have q15 := q1.set3 (.slice qa len qc)
  have q05c := q05.cell0
  have hsz5 : (w4.setCell ⟨w.heap.size + 1, 3, none⟩ (.slice qa len qc)).heap.size = w4.heap.size := by simp
  have hqo : At (w4.setCell ⟨w.heap.size + 1, 3, none⟩ (.slice qa len qc)) qa body := by
    refine (own_at ho4).kp kS (fun x hx => ?_)
    subst hx
    have := (ho4.lt x.block rfl).1
    show x.block ≠ _
    omega
  have hRl : (R.flatMap Pk.cells).length = n * 4 := by rw [cells_len, hR.out]
  have hone : ∀ u ∈ R.flatMap Pk.cells, u.oneCell' = true := fun u hu => by
    obtain ⟨q, _, hq⟩ := List.mem_flatMap.1 hu
    simp [Pk.cells] at hq
    rcases hq with rfl | rfl | rfl | rfl <;> rfl
  replace hRl := hid hRl
  replace hone := hid hone
  replace q0 := hid q0
  replace q1 := hid q1
  replace q2 := hid q2
  replace q05 := hid q05
  replace q15 := hid q15
  replace q25 := hid q25
  replace hsz5 := hid hsz5
  replace B5 := hid B5
  go_wp2_with (at_builtin; refine Hid.out ?_)
  refine hid ?_
  refine wpList_cat _ rfl (.tmp 24) (.tmp 26) 34 rfl (w4.setCell ⟨w.heap.size + 1, 3, none⟩ (.slice qa len qc)).heap.size 31 i0 _ 4 48 Try.underlying34 hi0 hz0 hz1 hz2 rfl (by omega) (.slice none 0 0) 0 [] rfl (World.ownsRow_nil _ _ _ _) a n c (R.flatMap Pk.cells) rfl hRl.out h5.row hone.out (by unfold maxLen; omega) (by omega) (Nat.le_refl _) ?_
  intro v6 w6 hr6 hg6 hv6
  have b6 := (Below.refl _ (w4.setCell ⟨w.heap.size + 1, 3, none⟩ (.slice qa len qc))).grown hg6 (Nat.le_refl _) (fun k hk => by cases hk)
  have q16 := q15.out.below b6
  have q06 := q05.out.below b6
  have q26 := q25.out.below b6
  have bl7 := below_lit w6 (.cells #[.int .i64 ((last : Int) + 1), .int .i64 fr, .int .i64 to, .slice qa len qc] 31)
  have hr7 := owns_below hr6 bl7
  have hcl := cat_lit w6 31 [.int .i64 ((last : Int) + 1), .int .i64 fr, .int .i64 to, .slice qa len qc] _ rfl
  have q07 := hid (q06.below bl7)
  have q27 := hid (q26.below bl7)
  rw [Nat.zero_add, List.nil_append] at hr7
  replace hr7 := hid hr7
  replace hcl := hid hcl
  replace q06 := hid q06
  replace q26 := hid q26
  replace q16 := hid q16
  go_wp2_with (refine wpList_load_row rfl 31 (.tmp 3) rfl _ rfl 31 _ (0, 0) _ q16.out Try.underlying31 rfl info31 ?_; refine Hid.out ?_)
  refine hid ?_
  go_wp2_with (at_builtin; refine Hid.out ?_)
  refine hid ?_
  refine wpList_cat _ rfl (.tmp 28) (.tmp 30) 34 rfl (w4.setCell ⟨w.heap.size + 1, 3, none⟩ (.slice qa len qc)).heap.size 31 i0 _ 4 48 Try.underlying34 hi0 hz0 hz1 hz2 rfl (by omega) v6 n (R.flatMap Pk.cells) rfl hr7.out (some ⟨w6.heap.size, 0, none⟩) 1 1 [.int .i64 ((last : Int) + 1), .int .i64 fr, .int .i64 to, .slice qa len qc] rfl rfl hcl.out (by simp [Value.oneCell']) (by unfold maxLen; omega) (by omega) (Nat.le_trans b6.size bl7.size) ?_
  intro v8 w8 hr8 hg8 hv8
  obtain ⟨a8, c8, hv8e, hc8⟩ := owns_form hr8
  subst hv8e
  have k8 := Kp.grown hg8
  have hown6 : ∀ k, v6.ownBlock = some k → w4.heap.size ≤ k := fun k hk => by have := (World.ownsRow.lt hr6 k hk).1; rw [hsz5.out] at this; exact this
  have q08 := q07.out.kp k8 (fun e => by have := hown6 _ e; omega)
  have q28 := q27.out.kp k8 (fun e => by have := hown6 _ e; omega)
  have q08c := q08.cell0
  have q08f := q08.free 0
  have q09 := q08.set0 (.slice a8 (n + 1) c8)
  have q29 := q28.other w.heap.size 0 (.slice a8 (n + 1) c8) (by omega)
  have q09a := q09.cell0
  have q09b := q09.cell1
  have q29a := q29.cell0
  have q29b := q29.cell1
  have q29f := q29.free 0
  have q29g := q29.free 1
  replace q08 := hid q08
  replace q28 := hid q28
  replace q09 := hid q09
  replace q29 := hid q29
  replace hown6 := hid hown6
  go_wp2_with fail
  go_region
  have q2f := ((q29.out.set0 (.slice a8 (n + 1) c8)).set1 (.int .i64 ((last : Int) + 1))).below (drew_below _)
  have kF : Kp (fun k => k = w.heap.size ∨ k = w.heap.size + 2) w8 (((w8.setCell ⟨w.heap.size, 0, none⟩ (.slice a8 (n + 1) c8)).setCell ⟨w.heap.size + 2, 0, none⟩ (.slice a8 (n + 1) c8)).setCell ⟨w.heap.size + 2, 1, none⟩ (.int .i64 ((last : Int) + 1))).drew :=
    (Kp.setCell (Kp.setCell (Kp.setCell (S := fun k => k = w.heap.size ∨ k = w.heap.size + 2) (p := ⟨w.heap.size, 0, none⟩) (Kp.refl _ _) (.inl rfl) _) (p := ⟨w.heap.size + 2, 0, none⟩) (.inr rfl) _) (p := ⟨w.heap.size + 2, 1, none⟩) (.inr rfl) _).then (drew_below _)
  have hb7 : w4.heap.size ≤ (w6.alloc (.cells #[.int .i64 ((last : Int) + 1), .int .i64 fr, .int .i64 to, .slice qa len qc] 31)).heap.size := by
    have h1 := b6.size
    have h2 := bl7.size
    rw [hsz5.out] at h1
    omega
  have B7 := bnext (bnext B5.out b6) bl7
  have B8 := B7.trans (k8.below (base := w.heap.size) (fun k hk => by have := hown6.out k hk; omega) (by omega))
  have hs8 := k8.size
  have BF := B8.trans (kF.below (base := w.heap.size) (fun k hk => by omega) (by omega))
  have hsF := kF.size
  have hq7 := ((hqo.below b6).below bl7).kp k8 (fun x hx => by
    intro e
    subst hx
    have h1 := (ho4.lt x.block rfl).2
    have h2 := hown6.out _ e
    omega)
  have hqF := hq7.kp kF (fun x hx => by
    intro e
    subst hx
    have h1 := (ho4.lt x.block rfl).1
    rw [hsz] at h1
    omega)
  have hrl : ∀ x, a8 = some x → w4.heap.size ≤ x.block ∧ x.block < w8.heap.size := fun x hx => by
    subst hx
    have := World.ownsRow.lt hr8 x.block rfl
    rw [hsz5.out] at this
    exact this
  have hrow := (owns_cat hr8).kp kF (fun x hx => by
    intro e
    have := (hrl x hx).1
    omega)
  generalize (((w8.setCell ⟨w.heap.size, 0, none⟩ (.slice a8 (n + 1) c8)).setCell ⟨w.heap.size + 2, 0, none⟩ (.slice a8 (n + 1) c8)).setCell ⟨w.heap.size + 2, 1, none⟩ (.int .i64 ((last : Int) + 1))).drew = wF at *
  replace q2f := hid q2f
  go_wp2
  (try simp only [Exit.inBlock, Exit.then])
  refine bodyPost_ret (results_r3 rfl _ _ (w.heap.size + 2) _ _ rfl q2f.out) rfl ?_
  refine ⟨.slice a8 (n + 1) c8, ⟨(last : Int) + 1, fr, to, qa, qc, body⟩, rfl, ⟨by simp, rfl, rfl, rfl, ⟨a8, c8, by rw [hR.out], ⟨?_, ?_⟩, ?_, by rw [hR.out]; exact hc8⟩, ?_⟩, BF⟩
  · rw [List.flatMap_append]
    have e : [(⟨(last : Int) + 1, fr, to, qa, qc, body⟩ : Pk)].flatMap Pk.cells = [.int .i64 ((last : Int) + 1), .int .i64 fr, .int .i64 to, .slice qa len qc] := by
      simp [Pk.cells, hl.out]
    rw [e]
    exact hrow
  · intro q hq
    rcases List.mem_append.1 hq with h' | h'
    · exact (h.below BF).body q h'
    · rw [List.mem_singleton] at h'
      subst h'
      exact hqF
  · intro x hx
    have := hrl x hx
    omega
  · intro x hx
    have hx' : qa = some x := hx
    subst hx'
    have h1 := ho4.lt x.block rfl
    rw [hsz] at h1
    omega

end Go.Proofs.Ytgjjgfppolmkoaa
