/- The document's net: Double. -/
import Derived.Test.YtgjjgfppolmkoaaRefDel
namespace Go.Proofs.Ytgjjgfppolmkoaa
open Go.RowKit Go.Maps

/-- What put left, behind stores into a block of the caller's own. -/
theorem puts_over {w0 w w' w'' : World} {g : Nat} {a : Option Addr} {R : List Pk} {last : Nat} {fr to : Int} {body : List UInt8} {v : Value} {q : Pk} (h : Puts w w' R last fr to body v q) (hk : Kp (fun k => k = g) w' w'') (hg : g < w.heap.size) (hs : w0.heap.size ≤ w.heap.size) (hR : RAt w0 a R) (hb : Below w0.heap.size w0 w'') : Puts w0 w'' R last fr to body v q := by
  obtain ⟨a', c', e, hr, hn, hcc⟩ := h.rat
  have hs2 := hk.size
  refine ⟨h.num, h.fr_, h.to_, h.body_, ⟨a', c', e, ⟨hr.row.kp hk (fun x hx hs' => ?_), fun p hp' => ?_⟩, fun x hx => ?_, hcc⟩, fun x hx => ?_⟩
  · have := hn x hx; omega
  · rcases List.mem_append.1 hp' with h' | h'
    · exact (hR.below hb).body p h'
    · refine (hr.body p hp').kp hk (fun x hx hs' => ?_)
      rw [List.mem_singleton] at h'
      subst h'
      have := h.new x hx; omega
  · have := hn x hx; omega
  · have := h.new x hx; omega

set_option maxRecDepth 100000 in
set_option maxHeartbeats 400000 in
theorem rdbl_no (a : Option Addr) (n c : Nat) (last k : Int) (R : List Pk) (w : World) (hR : R.length = n) (h : RAt w a R) (hn : n ≤ 256) (hno : placeP R k = -1) :
    Calls Try.prog 22 #[.agg #[.slice a n c, .int .i64 last], .int .i64 k] w fun e w' => e = .returned (.tuple #[.agg #[.slice a n c, .int .i64 last], .int .i64 0, .int .i64 80]) ∧ Below w.heap.size w w' := by
  have B := bnext (below_lit w (.cells #[.slice a n c, .int .i64 last] 40)) (below_lit _ (.cells #[.slice none 0 0, .int .i64 0] 40))
  have r := RBlk.new (w.alloc (.cells #[.slice a n c, .int .i64 last] 40)) (.slice none 0 0) (.int .i64 0)
  have r0 := (RBlk.new w (.slice a n c) (.int .i64 last)).below (below_lit _ (.cells #[.slice none 0 0, .int .i64 0] 40))
  rw [World.size_alloc] at r
  have h2 := h.below B
  replace r0 := hid r0
  replace r := hid r
  replace B := hid B
  replace hR := hid hR
  replace hno := hid hno
  go_enter Try.func22, Try.ntmps22
  go_wp2_with fail
  generalize (w.alloc (.cells #[.slice a n c, .int .i64 last] 40)).alloc (.cells #[.slice none 0 0, .int .i64 0] 40) = w2 at *
  refine (rfind_any a n c last k R _ hR.out h2 (by omega)).mono ?_
  rintro e w3 ⟨rfl, b3⟩
  rw [hno.out]
  have r3 := r.out.below b3
  have r03 := r0.out.below b3
  have r3a := r3.cell0
  have r3b := r3.cell1
  have r3f := r3.free 0
  have r3g := r3.free 1
  have r03a := r03.cell0
  have r03b := r03.cell1
  have r4 := ((r3.set0 (.slice a n c)).set1 (.int .i64 last))
  have hlt : w.heap.size + 1 < w3.heap.size := r3.lt
  have BF := (bnext B.out b3).trans ((two_cells w3 (w.heap.size + 1) (.slice a n c) (.int .i64 last)).below (base := w.heap.size) (fun k hk => by omega) (by omega))
  replace r3 := hid r3
  replace r03 := hid r03
  replace r4 := hid r4
  replace BF := hid BF
  go_wp2
  (try simp only [Exit.inBlock, Exit.then])
  refine bodyPost_ret (results_r3 rfl _ _ (w.heap.size + 1) _ _ rfl r4.out) rfl ?_
  exact ⟨rfl, BF.out⟩

set_option maxRecDepth 100000 in
set_option maxHeartbeats 1000000 in
theorem rdbl_full (a : Option Addr) (n c : Nat) (last : Int) (k : Int) (R : List Pk) (w : World) (hR : R.length = n) (h : RAt w a R) (hn : 256 ≤ n ∧ n ≤ 1000) (j : Nat) (hj : j < R.length) (hpl : placeP R k = j) (num fr to : Int) (qa : Option Addr) (qc len : Nat) (body : List UInt8) (hq : R[j] = ⟨num, fr, to, qa, qc, body⟩) (hl : body.length = len) :
    Calls Try.prog 22 #[.agg #[.slice a n c, .int .i64 last], .int .i64 k] w fun e w' => e = .returned (.tuple #[.agg #[.slice a n c, .int .i64 last], .int .i64 0, .int .i64 5]) ∧ Below w.heap.size w w' := by
  obtain ⟨b, o, e⟩ := h.place (by intro e; rw [e] at hj; simp at hj)
  subst e
  have h00 := h
  have hjn : j < n := by omega
  have B := bnext (below_lit w (.cells #[.slice (some ⟨b, o, none⟩) n c, .int .i64 last] 40)) (below_lit _ (.cells #[.slice none 0 0, .int .i64 0] 40))
  have r := RBlk.new (w.alloc (.cells #[.slice (some ⟨b, o, none⟩) n c, .int .i64 last] 40)) (.slice none 0 0) (.int .i64 0)
  have r0 := (RBlk.new w (.slice (some ⟨b, o, none⟩) n c) (.int .i64 last)).below (below_lit _ (.cells #[.slice none 0 0, .int .i64 0] 40))
  rw [World.size_alloc] at r
  have h2 := h.below B
  replace r0 := hid r0
  replace r := hid r
  replace B := hid B
  replace hR := hid hR
  replace hpl := hid hpl
  go_enter Try.func22, Try.ntmps22
  go_wp2_with fail
  generalize (w.alloc (.cells #[.slice (some ⟨b, o, none⟩) n c, .int .i64 last] 40)).alloc (.cells #[.slice none 0 0, .int .i64 0] 40) = w2 at *
  refine (rfind_any (some ⟨b, o, none⟩) n c last k R _ hR.out h2 (by omega)).mono ?_
  rintro e w3 ⟨rfl, b3⟩
  rw [hpl.out]
  have bd := drew_below w3
  have r3 := (r.out.below b3).below bd
  have r03 := (r0.out.below b3).below bd
  have hlt : w.heap.size + 1 < w3.drew.heap.size := r3.lt
  have h3 := (h2.below b3).below bd
  have r03a := r03.cell0
  have r03b := r03.cell1
  obtain ⟨x0, x1, x2, x3⟩ := h3.packet j hj
  have hat3 := h3.body _ (List.getElem_mem hj)
  rw [hq] at x0 x1 x2 x3 hat3
  simp only at x0 x1 x2 x3 hat3
  rw [hl] at x3
  replace hq := hid hq
  replace hl := hid hl
  replace r3 := hid r3
  replace r03 := hid r03
  go_wp2_with fail
  go_region_with (go_at_call 39; refine (rput_full _ n c last _ _ _ _ _ hn.1).mono ?_; rintro e w5 ⟨rfl, b5⟩; have r5 := r3.out.below b5; have r5a := r5.cell0; have r5b := r5.cell1; have r5f := r5.free 0; have r5g := r5.free 1; have r6 := hid ((r5.set0 (.slice (some ⟨b, o, none⟩) n c)).set1 (.int .i64 last)); replace r5 := hid r5)
  all_goals
    have hs5 := b5.size
    have BF := (bnext (bnext (bnext B.out b3) bd) b5).trans ((two_cells w5 (w.heap.size + 1) (.slice (some ⟨b, o, none⟩) n c) (.int .i64 last)).below (base := w.heap.size) (fun k hk => by omega) (by omega))
    replace BF := hid BF
    go_wp2
    (try simp only [Exit.inBlock, Exit.then])
    refine bodyPost_ret (results_r3 rfl _ _ (w.heap.size + 1) _ _ rfl r6.out) rfl ?_
    exact ⟨rfl, BF.out⟩

set_option maxRecDepth 100000 in
set_option maxHeartbeats 1000000 in
theorem rdbl_ok (a : Option Addr) (n c last : Nat) (k : Int) (R : List Pk) (w : World) (hR : R.length = n) (h : RAt w a R) (hn : n < 256) (j : Nat) (hj : j < R.length) (hpl : placeP R k = j) (num fr to : Int) (qa : Option Addr) (qc len : Nat) (body : List UInt8) (hq : R[j] = ⟨num, fr, to, qa, qc, body⟩) (hl : body.length = len) (hlen : len ≤ 65545) (hlast : last < 4611686018427387904) :
    Calls Try.prog 22 #[.agg #[.slice a n c, .int .i64 (last : Int)], .int .i64 k] w fun e w' => ∃ v q, e = .returned (.tuple #[.agg #[v, .int .i64 ((last : Int) + 1)], .int .i64 ((last : Int) + 1), .int .i64 0]) ∧ Puts w w' R last fr to body v q ∧ Below w.heap.size w w' := by
  obtain ⟨b, o, e⟩ := h.place (by intro e; rw [e] at hj; simp at hj)
  subst e
  have h00 := h
  have hjn : j < n := by omega
  have B := bnext (below_lit w (.cells #[.slice (some ⟨b, o, none⟩) n c, .int .i64 (last : Int)] 40)) (below_lit _ (.cells #[.slice none 0 0, .int .i64 0] 40))
  have r := RBlk.new (w.alloc (.cells #[.slice (some ⟨b, o, none⟩) n c, .int .i64 (last : Int)] 40)) (.slice none 0 0) (.int .i64 0)
  have r0 := (RBlk.new w (.slice (some ⟨b, o, none⟩) n c) (.int .i64 (last : Int))).below (below_lit _ (.cells #[.slice none 0 0, .int .i64 0] 40))
  rw [World.size_alloc] at r
  have h2 := h.below B
  replace r0 := hid r0
  replace r := hid r
  replace B := hid B
  replace hR := hid hR
  replace hpl := hid hpl
  go_enter Try.func22, Try.ntmps22
  go_wp2_with fail
  generalize (w.alloc (.cells #[.slice (some ⟨b, o, none⟩) n c, .int .i64 (last : Int)] 40)).alloc (.cells #[.slice none 0 0, .int .i64 0] 40) = w2 at *
  refine (rfind_any (some ⟨b, o, none⟩) n c (last : Int) k R _ hR.out h2 (by omega)).mono ?_
  rintro e w3 ⟨rfl, b3⟩
  rw [hpl.out]
  have bd := drew_below w3
  have r3 := (r.out.below b3).below bd
  have r03 := (r0.out.below b3).below bd
  have hlt : w.heap.size + 1 < w3.drew.heap.size := r3.lt
  have h3 := (h2.below b3).below bd
  have r03a := r03.cell0
  have r03b := r03.cell1
  obtain ⟨x0, x1, x2, x3⟩ := h3.packet j hj
  have hat3 := h3.body _ (List.getElem_mem hj)
  rw [hq] at x0 x1 x2 x3 hat3
  simp only at x0 x1 x2 x3 hat3
  rw [hl] at x3
  replace hq := hid hq
  replace hl := hid hl
  replace r3 := hid r3
  replace r03 := hid r03
  go_wp2_with fail
  go_region_with (go_at_call 39; refine (rput_ok _ n c last _ fr to qa len qc body R _ hn hR.out h3 hl.out hlen hat3 hlast).mono ?_; rintro e w5 ⟨v5, q5, rfl, hp5, b5⟩; obtain ⟨a5, c5, e5⟩ := hp5.form; subst e5; replace hp5 := hid hp5; have r5 := r3.out.below b5; have r5a := r5.cell0; have r5b := r5.cell1; have r5f := r5.free 0; have r5g := r5.free 1; have r6 := hid ((r5.set0 (.slice a5 (R.length + 1) c5)).set1 (.int .i64 ((last : Int) + 1))); replace r5 := hid r5)
  all_goals
    have hs5 := b5.size
    have hs2 := B.out.size
    have hs3 := b3.size
    have hsd := bd.size
    have kF := two_cells w5 (w.heap.size + 1) (.slice a5 (R.length + 1) c5) (.int .i64 ((last : Int) + 1))
    have BF := (bnext (bnext (bnext B.out b3) bd) b5).trans (kF.below (base := w.heap.size) (fun k hk => by omega) (by omega))
    replace BF := hid BF
    go_wp2
    (try simp only [Exit.inBlock, Exit.then])
    refine bodyPost_ret (results_r3 rfl _ _ (w.heap.size + 1) _ _ rfl r6.out) rfl ?_
    exact ⟨_, q5, rfl, puts_over hp5.out kF (by omega) (by omega) h00 BF.out, BF.out⟩

end Go.Proofs.Ytgjjgfppolmkoaa
