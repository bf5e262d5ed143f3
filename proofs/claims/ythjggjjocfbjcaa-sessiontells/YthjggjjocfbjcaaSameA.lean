/- SameAsker of askers that are alike. -/
import Derived.Test.YthjggjjocfbjcaaSame
import Derived.Test.YthjggjjocfbjcaaCopyA
namespace Go.Proofs.Ythjggjjocfbjcaa
open Go.RowKit

set_option maxRecDepth 100000 in
set_option maxHeartbeats 2000000 in
theorem samea_any (id next acked : Int) (a1 a2 : Option Addr) (n c1 c2 lo1 lo2 : Nat) (K K2 : List KV) (w : World) (hK : K.length = n) (hK2 : K2.length = n) (hf : K.map KV.flat = K2.map KV.flat) (h1 : KAt w lo1 a1 K) (h2 : KAt w lo2 a2 K2) (hn : n ≤ 3000000000000000) :
    Calls Try.prog 29 #[.agg #[.int .i64 id, .int .i64 next, .int .i64 acked, .slice a1 n c1], .agg #[.int .i64 id, .int .i64 next, .int .i64 acked, .slice a2 n c2]] w fun e w' => e = .returned (.bool true) ∧ Below w.heap.size w w' := by
  have b1 := below_lit w (.cells #[.int .i64 id, .int .i64 next, .int .i64 acked, .slice a1 n c1] 41)
  have p1 := ABlk.new w (.int .i64 id) (.int .i64 next) (.int .i64 acked) (.slice a1 n c1)
  have b2 := below_lit (w.alloc (.cells #[.int .i64 id, .int .i64 next, .int .i64 acked, .slice a1 n c1] 41)) (.cells #[.int .i64 id, .int .i64 next, .int .i64 acked, .slice a2 n c2] 41)
  have p2 := ABlk.new (w.alloc (.cells #[.int .i64 id, .int .i64 next, .int .i64 acked, .slice a1 n c1] 41)) (.int .i64 id) (.int .i64 next) (.int .i64 acked) (.slice a2 n c2)
  have es : (w.alloc (.cells #[.int .i64 id, .int .i64 next, .int .i64 acked, .slice a1 n c1] 41)).heap.size = w.heap.size + 1 := by simp
  rw [es] at p2
  replace p1 := p1.below b2
  replace b1 := bnext b1 b2
  clear b2
  have g1 := h1.below b1
  have g2 := h2.below b1
  clear h1 h2
  replace hK := hid hK
  replace hK2 := hid hK2
  replace hf := hid hf
  have x0 := p1.cell0
  have x1 := p1.cell1
  have x2 := p1.cell2
  have x3 := p1.cell3
  have y0 := p2.cell0
  have y1 := p2.cell1
  have y2 := p2.cell2
  have y3 := p2.cell3
  go_enter Try.func29, Try.ntmps29
  go_wp2_with fail
  obtain ⟨w1, hw1⟩ : ∃ w1, w1 = (w.alloc (.cells #[.int .i64 id, .int .i64 next, .int .i64 acked, .slice a1 n c1] 41)).alloc (.cells #[.int .i64 id, .int .i64 next, .int .i64 acked, .slice a2 n c2] 41) := ⟨_, rfl⟩
  rw [← hw1] at p1 p2 b1 g1 g2 ⊢
  clear hw1 es x0 x1 x2 x3 y0 y1 y2 y3
  go_loopw [5] (fun i wr => ∃ j : Nat, j ≤ n ∧ i = .int .i64 (j : Int) ∧ Below w1.heap.size w1 wr) (fun i _ => n - (intOf i).toNat)
  case atStart => exact ⟨0, Nat.zero_le _, rfl, Below.refl _ _⟩
  case round =>
    obtain ⟨j, hj, rfl, hb⟩ := hrel
    have x3 := (p1.below hb).cell3
    have y3 := (p2.below hb).cell3
    by_cases hlt : j < n
    · have hj1 : j < K.length := by rw [hK.out]; exact hlt
      have hj2 : j < K2.length := by rw [hK2.out]; exact hlt
      obtain ⟨q1, o1, e1⟩ := g1.place (by intro e; rw [e] at hj1; simp at hj1)
      obtain ⟨q2, o2, e2⟩ := g2.place (by intro e; rw [e] at hj2; simp at hj2)
      subst e1 e2
      have m1 := g1.below hb
      have m2 := g2.below hb
      obtain ⟨r0, r1⟩ := m1.one j hj1
      obtain ⟨s0, s1⟩ := m2.one j hj2
      have at1 := m1.body _ (List.getElem_mem hj1)
      have at2 := m2.body _ (List.getElem_mem hj2)
      have hel : K[j].flat = K2[j].flat := by
        have := congrArg (fun l => l[j]?) hf.out
        simpa [hj1, hj2] using this
      have g0 : K[j].num = K2[j].num := congrArg (fun x : PK => x.1) hel
      have g9 : K[j].body = K2[j].body := congrArg (fun x : PK => x.2) hel
      rw [g0] at r0
      rw [g9] at r1 at1
      generalize K2[j].num = num at r0 s0
      generalize K2[j].body = bd at r1 s1 at1 at2
      generalize K[j].a = aa at r1 at1
      generalize K[j].c = ca at r1
      generalize K2[j].a = ab at s1 at2
      generalize K2[j].c = cb at s1
      have hcall : ∀ q, Calls Try.prog 21 #[.slice aa bd.length ca, .slice ab bd.length cb] (wr.drewN q) fun e w' => e = .returned (.bool true) ∧ w' = wr.drewN q := fun q => same_any aa ab bd.length bd.length ca cb bd bd (wr.drewN q) rfl rfl (at1.below (below_drewN (Below.refl _ _) _)) (at2.below (below_drewN (Below.refl _ _) _)) rfl
      clear at1 at2 hel g0 g9 m1 m2
      replace g1 := hid g1
      replace g2 := hid g2
      generalize bd.length = len at *
      go_wp2_with fail
      go_quiet (first | (go_at_call 21; exact Calls.quiet_of_same (hcall _)))
      replace hb := below_drewN hb nq
      clear hcall r0 r1 s0 s1 x3 y3
      generalize wr.drewN nq = w3 at *
      go_wp2_with fail
      go_roundw
      case rel => exact ⟨j + 1, by omega, by go_num, hb⟩
      case measure => simp [intOf]; omega
    · obtain rfl : j = n := by omega
      go_wp2
      go_ret
      exact ⟨rfl, bnext b1 hb⟩

end Go.Proofs.Ythjggjjocfbjcaa
