/- NetSpares. -/
import Derived.Test.YtgjjgfppolmkoaaSparesBase
import Derived.Deep.RegionHeld
namespace Go.Proofs.Ytgjjgfppolmkoaa
open Go.RowKit Go.Maps

theorem At.takeN {w : World} {a : Option Addr} {l : List UInt8} (h : At w a l) (n : Nat) : At w a (l.take n) := by
  have : At w a (l.take n ++ l.drop n) := by rw [List.take_append_drop]; exact h
  exact this.head

theorem own_block {t : Option Addr × Nat × List UInt8} {b : Nat} (h : (slT t).ownBlock = some b) : ∃ x, t.1 = some x ∧ x.block = b := by
  obtain ⟨a, c, l⟩ := t
  cases a with
  | none => cases h
  | some x => exact ⟨x, rfl, Option.some.inj h⟩

/-- Five slices, apart by where their blocks lie. -/
theorem five_apart {x1 x2 x3 x4 ai : Option Addr} {y1 y2 y3 y4 ci : Nat} {l : List UInt8} {B C : Nat} (h1 : ∀ x, x1 = some x → B ≤ x.block ∧ x.block < C) (h2 : ∀ x, x2 = some x → B ≤ x.block ∧ x.block < C) (h3 : ∀ x, x3 = some x → C ≤ x.block) (h4 : ∀ x, x4 = some x → C ≤ x.block) (hi : ∀ x, ai = some x → x.block < B)
    (h12 : ∀ x y, x1 = some x → x2 = some y → x.block ≠ y.block) (h34 : ∀ x y, x3 = some x → x4 = some y → x.block ≠ y.block) (hBC : B ≤ C) :
    [(x1, y1, l), (x2, y2, l), (x3, y3, l), (x4, y4, l), (ai, ci, l)].Pairwise fun s t => ∀ b, (slT s).ownBlock = some b → (slT t).ownBlock ≠ some b := by
  have key : ∀ {u v : Option Addr} {c d : Nat}, (∀ x y, u = some x → v = some y → x.block ≠ y.block) → ∀ b, (slT (u, c, l)).ownBlock = some b → (slT (v, d, l)).ownBlock ≠ some b := fun h b e e2 => by
    obtain ⟨x, hx, hxb⟩ := own_block e
    obtain ⟨y, hy, hyb⟩ := own_block e2
    exact h x y hx hy (by omega)
  simp only [List.pairwise_cons, List.mem_cons, List.not_mem_nil, or_false, forall_eq_or_imp, forall_eq, List.Pairwise.nil, and_true, false_implies, implies_true]
  refine ⟨⟨key h12, key fun x y hx hy => ?_, key fun x y hx hy => ?_, key fun x y hx hy => ?_⟩, ⟨key fun x y hx hy => ?_, key fun x y hx hy => ?_, key fun x y hx hy => ?_⟩, ⟨key h34, key fun x y hx hy => ?_⟩, key fun x y hx hy => ?_⟩
  · have := h1 x hx; have := h3 y hy; omega
  · have := h1 x hx; have := h4 y hy; omega
  · have := h1 x hx; have := hi y hy; omega
  · have := h2 x hx; have := h3 y hy; omega
  · have := h2 x hx; have := h4 y hy; omega
  · have := h2 x hx; have := hi y hy; omega
  · have := h3 x hx; have := hi y hy; omega
  · have := h4 x hx; have := hi y hy; omega

/-- The blocks that ApartBytes turns there. -/
def FiveB (w w4 : World) (p m g5 g6 : Nat) : Nat → Prop := fun k => (w4.heap.size ≤ k ∨ (k < p ∧ k < m)) ∧ w.heap.size ≤ k ∧ k ≠ g5 ∧ k ≠ g6

theorem spares_apart (w w4 w5 w6 : World) (p m n g5 z5 g6 z6 lc5 lc6 y1 y2 y3 y4 ci : Nat) (x1 x2 x3 x4 ai : Option Addr) (l : List UInt8) (hll : l.length = n) (hn1 : n ≤ 3000)
    (hP5 : PRow w5 w4.heap.size (.slice (some ⟨g5, z5, none⟩) 2 lc5) [⟨1, 1, 2, x1, y1, l⟩, ⟨2, 1, 2, x2, y2, l⟩]) (hP6 : PRow w6 w5.heap.size (.slice (some ⟨g6, z6, none⟩) 2 lc6) [⟨1, 1, 2, x3, y3, l⟩, ⟨2, 1, 2, x4, y4, l⟩])
    (b5 : Below w4.heap.size w4 w5) (b6 : Below w5.heap.size w5 w6) (hi4 : Own w4 w.heap.size (.slice ai n ci) l) (hb4 : Below w.heap.size w w4) (hil : ∀ x, ai = some x → w.heap.size ≤ x.block ∧ x.block < p ∧ x.block < m) (z4 : p < w4.heap.size) :
    Calls Try.prog 30 #[.slice (some ⟨w6.drew.heap.size, 0, none⟩) 5 5] (w6.drew.alloc (.cells #[.slice x1 n y1, .slice x2 n y2, .slice x3 n y3, .slice x4 n y4, .slice ai n ci] 27)) fun e w' => e = .returned (.bool true) ∧ Kp (FiveB w w4 p m g5 g6) (w6.drew.alloc (.cells #[.slice x1 n y1, .slice x2 n y2, .slice x3 n y3, .slice x4 n y4, .slice ai n ci] 27)) w' := by
  have hx1 : ∀ x, x1 = some x → w4.heap.size ≤ x.block ∧ x.block < w5.heap.size := fun x hx => (hP5.own ⟨1, 1, 2, x1, y1, l⟩ (by simp)).lt x.block (by subst hx; rfl)
  have hx2 : ∀ x, x2 = some x → w4.heap.size ≤ x.block ∧ x.block < w5.heap.size := fun x hx => (hP5.own ⟨2, 1, 2, x2, y2, l⟩ (by simp)).lt x.block (by subst hx; rfl)
  have hx3 : ∀ x, x3 = some x → w5.heap.size ≤ x.block ∧ x.block < w6.heap.size := fun x hx => (hP6.own ⟨1, 1, 2, x3, y3, l⟩ (by simp)).lt x.block (by subst hx; rfl)
  have hx4 : ∀ x, x4 = some x → w5.heap.size ≤ x.block ∧ x.block < w6.heap.size := fun x hx => (hP6.own ⟨2, 1, 2, x4, y4, l⟩ (by simp)).lt x.block (by subst hx; rfl)
  have h12 : ∀ x y, x1 = some x → x2 = some y → x.block ≠ y.block := by have := hP5.apart; simpa using this
  have h34 : ∀ x y, x3 = some x → x4 = some y → x.block ≠ y.block := by have := hP6.apart; simpa using this
  have hz5 := b5.size
  have hz6 := b6.size
  have zw4 := hb4.size
  have hpw := five_apart (y1 := y1) (y2 := y2) (y3 := y3) (y4 := y4) (ci := ci) (l := l) hx1 hx2 (fun x hx => (hx3 x hx).1) (fun x hx => (hx4 x hx).1) (fun x hx => by have := hil x hx; omega) h12 h34 hz5
  have B6 := bnext (bnext hb4 b5) b6
  have bd := drew_below w6
  have ow1 := ((hP5.own ⟨1, 1, 2, x1, y1, l⟩ (by simp)).le zw4).below (bnext b6 bd)
  have ow2 := ((hP5.own ⟨2, 1, 2, x2, y2, l⟩ (by simp)).le zw4).below (bnext b6 bd)
  have ow3 := ((hP6.own ⟨1, 1, 2, x3, y3, l⟩ (by simp)).le (show w.heap.size ≤ w5.heap.size by omega)).below bd
  have ow4 := ((hP6.own ⟨2, 1, 2, x4, y4, l⟩ (by simp)).le (show w.heap.size ≤ w5.heap.size by omega)).below bd
  have owi := hi4.below (bnext (bnext b5 b6) bd)
  have ro5 := World.ownsRow.lt hP5.row g5 rfl
  have ro6 := World.ownsRow.lt hP6.row g6 rfl
  have of5 := hP5.off
  have of6 := hP6.off
  simp [Value.ownBlock] at of5 of6
  subst hll
  refine (apart_list w6.drew w.heap.size [(x1, y1, l), (x2, y2, l), (x3, y3, l), (x4, y4, l), (ai, ci, l)] (bnext B6 bd).size (by simp) ?_ ?_ hpw _ rfl 5 rfl).mono ?_
  · intro t ht
    simp at ht
    rcases ht with rfl | rfl | rfl | rfl | rfl <;> (show l.length ≤ 1000000; omega)
  · intro t ht
    simp at ht
    rcases ht with rfl | rfl | rfl | rfl | rfl
    · exact ow1
    · exact ow2
    · exact ow3
    · exact ow4
    · exact owi
  · rintro e w' ⟨rfl, hk⟩
    refine ⟨rfl, hk.mono (fun k _ ⟨t, ht, e⟩ => ?_)⟩
    obtain ⟨x, hx, hk⟩ := own_block e
    simp at ht
    unfold FiveB
    rcases ht with rfl | rfl | rfl | rfl | rfl
    · have h1 := hx1 x hx; have h2 := of5.1 x hx; omega
    · have h1 := hx2 x hx; have h2 := of5.2 x hx; omega
    · have h1 := hx3 x hx; have h2 := of6.1 x hx; omega
    · have h1 := hx4 x hx; have h2 := of6.2 x hx; omega
    · have h1 := hil x hx; omega

theorem two_apart (w : World) (g : Nat) (hg : w.heap.size = g) (base : Nat) (a8 a9 : Option Addr) (c8 c9 n : Nat) (l : List UInt8) (hll : l.length = n) (hn1 : n ≤ 3000) (h8 : Own w base (.slice a8 n c8) l) (h9 : Own w base (.slice a9 n c9) l) (hb : base ≤ w.heap.size) (hd : ∀ x y, a8 = some x → a9 = some y → x.block ≠ y.block) :
    Calls Try.prog 30 #[.slice (some ⟨g, 0, none⟩) 2 2] (w.alloc (.cells #[.slice a8 n c8, .slice a9 n c9] 27)) fun e w' => e = .returned (.bool true) ∧ Below base (w.alloc (.cells #[.slice a8 n c8, .slice a9 n c9] 27)) w' := by
  subst hll hg
  have bl := below_lit w (.cells #[.slice a8 l.length c8, .slice a9 l.length c9] 27)
  refine (apart_list w base [(a8, c8, l), (a9, c9, l)] hb (by simp) ?_ ?_ ?_ _ rfl 2 rfl).mono ?_
  · intro t ht
    simp at ht
    rcases ht with rfl | rfl <;> (show l.length ≤ 1000000; omega)
  · intro t ht
    simp at ht
    rcases ht with rfl | rfl
    · exact h8
    · exact h9
  · simp only [List.pairwise_cons, List.mem_cons, List.not_mem_nil, or_false, forall_eq, List.Pairwise.nil, and_true, false_implies, implies_true]
    intro b e e2
    obtain ⟨x, hx, hxb⟩ := own_block e
    obtain ⟨y, hy, hyb⟩ := own_block e2
    exact hd x y hx hy (by omega)
  · rintro e w' ⟨rfl, hk⟩
    refine ⟨rfl, hk.below (fun k ⟨t, ht, e⟩ => ?_) (Nat.le_trans hb bl.size)⟩
    simp at ht
    rcases ht with rfl | rfl
    · exact (h8.lt k e).1
    · exact (h9.lt k e).1

set_option maxRecDepth 100000 in
set_option maxHeartbeats 1000000 in
theorem spares_any (a : Option Addr) (len cap : Nat) (l0 : List UInt8) (w : World) (hl : l0.length = len) (hat : At w a l0) (hc : len ≤ cap) (hlen : len ≤ 140737488355328) : Calls Try.prog 8 #[.slice a len cap] w fun e w' => e = .returned (.bool true) ∧ Below w.heap.size w w' := by
  go_enter Try.func8, Try.ntmps8
  go_wp2_with fail
  obtain ⟨n, hn⟩ : ∃ n, n = (min (len : Int) 3000).toNat := ⟨_, rfl⟩
  rw [← hn]
  have hn1 : n ≤ 3000 := by omega
  have hn2 : n ≤ len := by omega
  have hll : (l0.take n).length = n := by rw [List.length_take]; omega
  have hat1 := hat.takeN n
  generalize l0.take n = l at hll hat1
  replace hn := hid hn
  replace hll := hid hll
  clear hat hl
  refine (copy_any a cap n l _ hll.out (by omega) hat1).mono ?_
  rintro e w1 ⟨v1, rfl, ho1, b1⟩
  obtain ⟨ai, ci, rfl, _, _⟩ := ho1.form
  rw [hll.out] at ho1 ⊢
  go_wp2_with fail
  refine (new_any _).mono ?_
  rintro e w2 ⟨p, m, rfl, hp, hm, h2, b2⟩
  go_wp2_with fail
  refine (send_ok 1 2 ai ci n l _ h2 hll.out (by omega) (by omega) (by simp) ((own_at ho1).below b2)).mono ?_
  rintro e w3 ⟨⟨n1, f1, t1, a1, c1, d1⟩, rfl, e1, e2, e3, e4, o1, h3, k3⟩
  simp only at e1 e2 e3 e4 o1
  replace e4 := e4.symm
  subst e1 e2 e3 e4
  go_wp2_with fail
  refine (double_yes 1 ⟨1, 1, 2, a1, c1, l⟩ _ h3 (wf_i (by omega) (by omega)) rfl (by omega) (by simp)).mono ?_
  rintro e w4 ⟨rfl, h4, k4⟩
  have h4 : NAt w4 p m [⟨1, 1, 2, a1, c1, l⟩, ⟨2, 1, 2, a1, c1, l⟩] 2 := h4
  have hp2 := h2.lt
  have hm2 := h2.own.lt
  have k24 := k3.trans k4
  have hi4 : Own w4 w.heap.size (.slice ai n ci) l := (ho1.below b2).kp k24 (fun k hk e => by have := (ho1.lt k hk).2; rcases e with e | e <;> omega)
  have hb4 : Below w.heap.size w w4 := (bnext b1 b2).trans (k24.below (fun k e => by rcases e with e | e <;> (have := b1.size; omega)) (bnext b1 b2).size)
  have hil : ∀ x, ai = some x → w.heap.size ≤ x.block ∧ x.block < p ∧ x.block < m := fun x hx => by
    have := ho1.lt x.block (by rw [hx]; rfl)
    omega
  replace h2 := hid h2
  replace h3 := hid h3
  go_wp2_with fail
  refine (list_any _ h4 (by simp) (by omega)).mono ?_
  rintro e w5 ⟨v5, Q5, rfl, hQ5, hP5, b5⟩
  have h5 := h4.below b5
  go_wp2_with fail
  refine (list_any _ h5 (by simp) (by omega)).mono ?_
  rintro e w6 ⟨v6, Q6, rfl, hQ6, hP6, b6⟩
  have h6 := h5.below b6
  obtain ⟨x1, y1, x2, y2, rfl⟩ := flat2 hQ5
  obtain ⟨x3, y3, x4, y4, rfl⟩ := flat2 hQ6
  simp only at hP5 hP6
  clear hQ5 hQ6
  have q5 := hP5.below b6
  have r5 := q5.row
  have r6 := hP6.row
  obtain ⟨la5, lc5, rfl, _⟩ := owns_form r5
  obtain ⟨la6, lc6, rfl, _⟩ := owns_form r6
  obtain ⟨g5, z5, rfl, cc5⟩ := owns_cat r5 (by simp [Pk.cells])
  obtain ⟨g6, z6, rfl, cc6⟩ := owns_cat r6 (by simp [Pk.cells])
  have s1 : w6.cell? ⟨g5, z5 + 3, none⟩ = some (.slice x1 n y1) := by rw [cc5 3 (by simp [Pk.cells])]; simp [Pk.cells, hll.out]
  have s2 : w6.cell? ⟨g5, z5 + 7, none⟩ = some (.slice x2 n y2) := by rw [cc5 7 (by simp [Pk.cells])]; simp [Pk.cells, hll.out]
  have s3 : w6.cell? ⟨g6, z6 + 3, none⟩ = some (.slice x3 n y3) := by rw [cc6 3 (by simp [Pk.cells])]; simp [Pk.cells, hll.out]
  have s4 : w6.cell? ⟨g6, z6 + 7, none⟩ = some (.slice x4 n y4) := by rw [cc6 7 (by simp [Pk.cells])]; simp [Pk.cells, hll.out]
  have z4 := h4.lt
  have z4m := h4.own.lt
  replace r5 := hid r5
  replace r6 := hid r6
  replace q5 := hid q5
  replace hP5 := hid hP5
  replace hP6 := hid hP6
  replace cc5 := hid cc5
  replace cc6 := hid cc6
  replace h4 := hid h4
  replace h5 := hid h5
  simp only [List.length_cons, List.length_nil, Nat.zero_add, Nat.reduceAdd]
  have hap := spares_apart w w4 w5 w6 p m n g5 z5 g6 z6 lc5 lc6 y1 y2 y3 y4 ci x1 x2 x3 x4 ai l hll.out hn1 hP5.out hP6.out b5 b6 hi4 hb4 hil z4
  have bd := drew_below w6
  have bl7 := below_lit w6.drew (.cells #[.slice x1 n y1, .slice x2 n y2, .slice x3 n y3, .slice x4 n y4, .slice ai n ci] 27)
  have h7 := (h6.below bd).below bl7
  have u1 := kp_cell (T := fun _ => False) (Kp.of_below (bnext bd bl7)) s1 (fun h => h)
  have u2 := kp_cell (T := fun _ => False) (Kp.of_below (bnext bd bl7)) s2 (fun h => h)
  have u3 := kp_cell (T := fun _ => False) (Kp.of_below (bnext bd bl7)) s3 (fun h => h)
  have u4 := kp_cell (T := fun _ => False) (Kp.of_below (bnext bd bl7)) s4 (fun h => h)
  replace hap := hid hap
  replace h7 := hid h7
  replace h6 := hid h6
  go_wp2_with fail
  go_region_held (fun w' : World => w'.cell? ⟨g5, z5 + 3, none⟩ = some (.slice x1 n y1) ∧ w'.cell? ⟨g5, z5 + 7, none⟩ = some (.slice x2 n y2) ∧ w'.cell? ⟨g6, z6 + 3, none⟩ = some (.slice x3 n y3) ∧ w'.cell? ⟨g6, z6 + 7, none⟩ = some (.slice x4 n y4)) (first | exact hS7 | exact ⟨u1, u2, u3, u4⟩ | exact ⟨s1, s2, s3, s4⟩) (first
    | (go_at_call 30; refine hap.out.mono ?_; rintro e w7 ⟨rfl, k7⟩; have hS7 := And.intro (kp_cell k7 u1 (fun e => e.2.2.1 rfl)) (And.intro (kp_cell k7 u2 (fun e => e.2.2.1 rfl)) (And.intro (kp_cell k7 u3 (fun e => e.2.2.2 rfl)) (kp_cell k7 u4 (fun e => e.2.2.2 rfl))))))
  have hbl := h4.out.bodies.lt ⟨1, 1, 2, a1, c1, l⟩ (by simp)
  have h8 : NAt w7 p m [⟨1, 1, 2, a1, c1, l⟩, ⟨2, 1, 2, a1, c1, l⟩] 2 := h7.out.kp k7 (fun e => by have := e.1; omega) (fun e => by have := e.1; omega) (fun q hq x hx e => by
    have hx : a1 = some x := by
      simp at hq
      rcases hq with rfl | rfl <;> exact hx
    have h1 := o1 x hx
    have h2 := hbl x hx
    have h3 := e.1
    omega)
  have B6 := bnext (bnext hb4 b5) b6
  have B7a := bnext B6 (bnext bd bl7)
  have B7 : Below w.heap.size w w7 := B7a.trans (k7.below (fun k e => e.2.1) B7a.size)
  clear hS7 s1 s2 s3 s4 u1 u2 u3 u4
  replace h7 := hid h7
  go_wp2_with fail
  refine (deliver_yes 1 ⟨1, 1, 2, a1, c1, l⟩ _ h8 (wf_i (by omega) (by omega)) rfl).mono ?_
  rintro e w8 ⟨a8, c8, rfl, ho8, h9, k8⟩
  have h9 : NAt w8 p m [⟨2, 1, 2, a1, c1, l⟩] 2 := h9
  simp only at ho8 ⊢
  rw [hll.out] at ho8 ⊢
  have z8 := h8.lt
  have z8m := h8.own.lt
  have bl8 := below_lit w8 (.cells #[.int .i64 1, .int .i64 1, .int .i64 2, .slice a8 n c8] 31)
  have P8 := PBlk.new w8 (.int .i64 1) (.int .i64 1) (.int .i64 2) (.slice a8 n c8)
  have h10 := h9.below bl8
  have ho10 := ho8.below bl8
  have z9 := k8.size
  have B8 : Below w.heap.size w w8 := B7.trans (k8.below (fun k e => by rcases e with e | e <;> (have := b1.size; omega)) B7.size)
  replace h8 := hid h8
  replace h9 := hid h9
  replace P8 := hid P8
  go_wp2_with fail
  refine (deliver_yes 2 ⟨2, 1, 2, a1, c1, l⟩ _ h10 (wf_i (by omega) (by omega)) rfl).mono ?_
  rintro e w9 ⟨a9, c9, rfl, ho9, _, k9⟩
  simp only at ho9 ⊢
  rw [hll.out] at ho9 ⊢
  have bl9 := below_lit w9 (.cells #[.int .i64 2, .int .i64 1, .int .i64 2, .slice a9 n c9] 31)
  have P9 := PBlk.new w9 (.int .i64 2) (.int .i64 1) (.int .i64 2) (.slice a9 n c9)
  have P8a := h10.pblk P8.out (by omega) k9
  have hlt8 := P8a.lt
  have P8' := P8a.below bl9
  replace P8a := hid P8a
  have ho8' := (own_turn ho10 z8 z8m k9).below bl9
  have ho9' := ho9.below bl9
  have B9 : Below w.heap.size w _ := bnext ((bnext B8 bl8).trans (k9.below (fun k e => by rcases e with e | e <;> (have := b1.size; omega)) (bnext B8 bl8).size)) bl9
  have v3 := P8'.cell3
  have t3 := P9.cell3
  have hatF := hat1.below B9
  replace h10 := hid h10
  replace P9 := hid P9
  replace P8' := hid P8'
  have hx8 : ∀ x, a8 = some x → x.block < w8.heap.size := fun x hx => (ho8.lt x.block (by subst hx; rfl)).2
  have hx9 : ∀ x, a9 = some x → w8.heap.size < x.block := fun x hx => by
    have := (ho9.lt x.block (by subst hx; rfl)).1
    have e : (w8.alloc (.cells #[.int .i64 1, .int .i64 1, .int .i64 2, .slice a8 n c8] 31)).heap.size = w8.heap.size + 1 := by simp
    omega
  have hap2 := two_apart (w9.alloc (.cells #[.int .i64 2, .int .i64 1, .int .i64 2, .slice a9 n c9] 31)) (w9.heap.size + 1) (World.size_alloc _ _) w.heap.size a8 a9 c8 c9 n l hll.out hn1 (ho8'.le B7.size) (ho9'.le (bnext B8 bl8).size) B9.size (fun x y hx hy => by have := hx8 x hx; have := hx9 y hy; omega)
  replace hap2 := hid hap2
  replace hx8 := hid hx8
  replace hx9 := hid hx9
  go_wp2_with fail
  refine (same_any a8 a n n c8 cap l l _ hll.out hll.out (own_at ho8') hatF rfl).mono ?_
  rintro e w10 ⟨rfl, rfl⟩
  go_wp2_with fail
  refine (same_any a9 a n n c9 cap l l _ hll.out hll.out (own_at ho9') hatF rfl).mono ?_
  rintro e w10 ⟨rfl, rfl⟩
  go_wp2_with fail
  refine hap2.out.mono ?_
  rintro e w11 ⟨rfl, b11⟩
  have B11 := (bnext B9 (below_lit _ (.cells #[.slice a8 n c8, .slice a9 n c9] 27))).trans b11
  go_wp2_with fail
  refine (awake_any _).mono ?_
  rintro e w12 ⟨rfl, b12⟩
  go_wp2
  go_ret
  exact ⟨rfl, bnext B11 b12⟩
end Go.Proofs.Ytgjjgfppolmkoaa
