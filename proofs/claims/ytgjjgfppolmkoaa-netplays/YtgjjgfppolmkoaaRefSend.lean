/- The document's net: Send. -/
import Derived.Test.YtgjjgfppolmkoaaRefPut
namespace Go.Proofs.Ytgjjgfppolmkoaa
open Go.RowKit Go.Maps

theorem RBlk.drew {w : World} {g : Nat} {x y : Value} (h : RBlk w g x y) : RBlk w.drew g x y := h.below (drew_below _)

theorem two_cells (w : World) (g : Nat) (u v : Value) : Kp (fun k => k = g) w ((w.setCell ⟨g, 0, none⟩ u).setCell ⟨g, 1, none⟩ v) :=
  Kp.setCell (S := fun k => k = g) (Kp.setCell (S := fun k => k = g) (p := ⟨g, 0, none⟩) (Kp.refl _ _) rfl _) (p := ⟨g, 1, none⟩) rfl _

set_option maxRecDepth 100000 in
set_option maxHeartbeats 400000 in
theorem rsend_long (a ba : Option Addr) (n c len bc : Nat) (last fr to : Int) (w : World) (hn : 65545 < len) :
    Calls Try.prog 16 #[.agg #[.slice a n c, .int .i64 last], .int .i64 fr, .int .i64 to, .slice ba len bc] w fun e w' => e = .returned (.tuple #[.agg #[.slice a n c, .int .i64 last], .int .i64 0, .int .i64 3]) ∧ Below w.heap.size w w' := by
  have d1 : decide ((65545 : Int) < (len : Int)) = true := decide_eq_true (by omega)
  have B := bnext (below_lit w (.cells #[.slice a n c, .int .i64 last] 40)) (below_lit _ (.cells #[.slice a n c, .int .i64 last] 40))
  have r := RBlk.new (w.alloc (.cells #[.slice a n c, .int .i64 last] 40)) (.slice a n c) (.int .i64 last)
  rw [World.size_alloc] at r
  replace r := hid r
  replace B := hid B
  go_enter Try.func16, Try.ntmps16
  go_wp2
  (try simp only [Exit.inBlock, Exit.then])
  refine bodyPost_ret (results_r3 rfl _ _ (w.heap.size + 1) _ _ rfl r.out) rfl ?_
  exact ⟨rfl, B.out⟩

set_option maxRecDepth 100000 in
set_option maxHeartbeats 400000 in
theorem rsend_full (a ba : Option Addr) (n c len bc : Nat) (last fr to : Int) (w : World) (hlen : len ≤ 65545) (hn : 256 ≤ n) :
    Calls Try.prog 16 #[.agg #[.slice a n c, .int .i64 last], .int .i64 fr, .int .i64 to, .slice ba len bc] w fun e w' => e = .returned (.tuple #[.agg #[.slice a n c, .int .i64 last], .int .i64 0, .int .i64 5]) ∧ Below w.heap.size w w' := by
  have d1 : decide ((65545 : Int) < (len : Int)) = false := decide_eq_false (by omega)
  have B := bnext (below_lit w (.cells #[.slice a n c, .int .i64 last] 40)) (below_lit _ (.cells #[.slice none 0 0, .int .i64 0] 40))
  have r := RBlk.new (w.alloc (.cells #[.slice a n c, .int .i64 last] 40)) (.slice none 0 0) (.int .i64 0)
  rw [World.size_alloc] at r
  replace r := hid r
  replace B := hid B
  go_enter Try.func16, Try.ntmps16
  go_wp2_with fail
  generalize (w.alloc (.cells #[.slice a n c, .int .i64 last] 40)).alloc (.cells #[.slice none 0 0, .int .i64 0] 40) = w2 at *
  refine (rput_full a n c last _ _ _ _ _ hn).mono ?_
  rintro e w3 ⟨rfl, b3⟩
  have r3 := r.out.below b3
  have r3a := r3.cell0
  have r3b := r3.cell1
  have r3f := r3.free 0
  have r3g := r3.free 1
  have r4 := ((r3.set0 (.slice a n c)).set1 (.int .i64 last))
  have hlt : w.heap.size + 1 < w3.heap.size := r3.lt
  replace r3 := hid r3
  replace r4 := hid r4
  go_wp2
  (try simp only [Exit.inBlock, Exit.then])
  refine bodyPost_ret (results_r3 rfl _ _ (w.heap.size + 1) _ _ rfl r4.out) rfl ?_
  refine ⟨rfl, (bnext B.out b3).trans (Kp.below (S := fun k => k = w.heap.size + 1) ?_ (fun k hk => by omega) (by omega))⟩
  exact two_cells _ _ _ _

theorem Puts.kp {S : Nat → Prop} {w w' w'' : World} {R : List Pk} {last : Nat} {fr to : Int} {body : List UInt8} {v : Value} {q : Pk} (h : Puts w w' R last fr to body v q) (hk : Kp S w' w'') (hS : ∀ k, S k → k < w.heap.size) (hR : ∀ p ∈ R, ∀ x, p.a = some x → ¬ S x.block) : Puts w w'' R last fr to body v q := by
  obtain ⟨a', c', e, hr, hb, hcc⟩ := h.rat
  have hs := hk.size
  refine ⟨h.num, h.fr_, h.to_, h.body_, ⟨a', c', e, hr.kp hk (fun x hx hs' => ?_) (fun p hp x hx hs' => ?_), fun x hx => ?_, hcc⟩, fun x hx => ?_⟩
  · have := hS _ hs'; have := hb x hx; omega
  · rcases List.mem_append.1 hp with h' | h'
    · exact hR p h' x hx hs'
    · rw [List.mem_singleton] at h'
      subst h'
      have := hS _ hs'; have := h.new x hx; omega
  · have := hb x hx; omega
  · have := h.new x hx; omega

theorem Puts.low {w0 w w' : World} {R : List Pk} {last : Nat} {fr to : Int} {body : List UInt8} {v : Value} {q : Pk} (h : Puts w w' R last fr to body v q) (hs : w0.heap.size ≤ w.heap.size) : Puts w0 w' R last fr to body v q := by
  obtain ⟨a', c', e, hr, hb, hcc⟩ := h.rat
  exact ⟨h.num, h.fr_, h.to_, h.body_, ⟨a', c', e, hr, fun x hx => by have := hb x hx; omega, hcc⟩, fun x hx => by have := h.new x hx; omega⟩

theorem Puts.form {w w' : World} {R : List Pk} {last : Nat} {fr to : Int} {body : List UInt8} {v : Value} {q : Pk} (h : Puts w w' R last fr to body v q) : ∃ a c, v = .slice a (R.length + 1) c := by
  obtain ⟨a', c', e, _⟩ := h.rat
  exact ⟨a', c', e⟩

theorem RAt.off {w : World} {a : Option Addr} {R : List Pk} (h : RAt w a R) : ∀ p ∈ R, p.body ≠ [] → ∀ x, p.a = some x → x.block < w.heap.size := fun p hp hne x hx => by
  obtain ⟨b, o, e, hc⟩ := h.body p hp hne
  rw [hx] at e
  cases e
  exact World.block_lt_of_cell? w _ (hc 0 (List.length_pos_iff.2 hne))

set_option maxRecDepth 100000 in
set_option maxHeartbeats 400000 in
theorem rsend_ok (a : Option Addr) (n c last : Nat) (fr to : Int) (ba : Option Addr) (len bc : Nat) (body : List UInt8) (R : List Pk) (w : World) (hn : n < 256) (hR : R.length = n) (h : RAt w a R) (hl : body.length = len) (hlen : len ≤ 65545) (hat : At w ba body) (hlast : last < 4611686018427387904) :
    Calls Try.prog 16 #[.agg #[.slice a n c, .int .i64 (last : Int)], .int .i64 fr, .int .i64 to, .slice ba len bc] w fun e w' => ∃ v q, e = .returned (.tuple #[.agg #[v, .int .i64 ((last : Int) + 1)], .int .i64 ((last : Int) + 1), .int .i64 0]) ∧ Puts w w' R last fr to body v q ∧ Below w.heap.size w w' := by
  have d1 : decide ((65545 : Int) < (len : Int)) = false := decide_eq_false (by omega)
  have B := bnext (below_lit w (.cells #[.slice a n c, .int .i64 (last : Int)] 40)) (below_lit _ (.cells #[.slice none 0 0, .int .i64 0] 40))
  have r := RBlk.new (w.alloc (.cells #[.slice a n c, .int .i64 (last : Int)] 40)) (.slice none 0 0) (.int .i64 0)
  rw [World.size_alloc] at r
  have h2 := h.below B
  have hat2 := hat.below B
  replace r := hid r
  replace B := hid B
  replace hl := hid hl
  replace hR := hid hR
  go_enter Try.func16, Try.ntmps16
  go_wp2_with fail
  generalize (w.alloc (.cells #[.slice a n c, .int .i64 (last : Int)] 40)).alloc (.cells #[.slice none 0 0, .int .i64 0] 40) = w2 at *
  refine (rput_ok a n c last 0 fr to ba len bc body R _ hn hR.out h2 hl.out hlen hat2 hlast).mono ?_
  rintro e w3 ⟨v, q, rfl, hp, b3⟩
  obtain ⟨a3, c3, e3⟩ := hp.form
  subst e3
  have r3 := r.out.below b3
  have r3a := r3.cell0
  have r3b := r3.cell1
  have r3f := r3.free 0
  have r3g := r3.free 1
  have r4 := ((r3.set0 (.slice a3 (R.length + 1) c3)).set1 (.int .i64 ((last : Int) + 1)))
  have hlt : w.heap.size + 1 < w2.heap.size := r.out.lt
  have kF : Kp (fun k => k = w.heap.size + 1) w3 ((w3.setCell ⟨w.heap.size + 1, 0, none⟩ (.slice a3 (R.length + 1) c3)).setCell ⟨w.heap.size + 1, 1, none⟩ (.int .i64 ((last : Int) + 1))) :=
    two_cells _ _ _ _
  have BF := (bnext B.out b3).trans (kF.below (base := w.heap.size) (fun k hk => by omega) (by have := b3.size; omega))
  replace r3 := hid r3
  replace r4 := hid r4
  replace hp := hid hp
  replace BF := hid BF
  go_wp2
  (try simp only [Exit.inBlock, Exit.then])
  refine bodyPost_ret (results_r3 rfl _ _ (w.heap.size + 1) _ _ rfl r4.out) rfl ?_
  refine ⟨_, q, rfl, ?_, BF.out⟩
  obtain ⟨a', c', e, hr, hb, hcc⟩ := hp.out.rat
  have hs := kF.size
  have hz := B.out.size
  refine ⟨hp.out.num, hp.out.fr_, hp.out.to_, hp.out.body_, ⟨a', c', e, ⟨hr.row.kp kF (fun x hx hs' => ?_), fun p hp' => ?_⟩, fun x hx => ?_, hcc⟩, fun x hx => ?_⟩
  · have := hb x hx; omega
  · rcases List.mem_append.1 hp' with h' | h'
    · exact (h.below BF.out).body p h'
    · refine (hr.body p hp').kp kF (fun x hx hs' => ?_)
      rw [List.mem_singleton] at h'
      subst h'
      have := hp.out.new x hx; omega
  · have := hb x hx; omega
  · have := hp.out.new x hx; omega
end Go.Proofs.Ytgjjgfppolmkoaa
