/- SameClients of clients that are alike; the chapter's example. -/
import Derived.Test.YthjggjjocfbjcaaDone
import Derived.WalkSmall
import Derived.Lib.SlBytesConst
namespace Go.Proofs.Ythjggjjocfbjcaa
open Go.RowKit

set_option maxRecDepth 100000 in
set_option maxHeartbeats 2000000 in
theorem samec_any (a1 a2 : Option Addr) (n c1 c2 lo1 lo2 : Nat) (Q R : List CV) (w : World) (hQ : Q.length = n) (hR : R.length = n) (hf : Q.map CV.flat = R.map CV.flat) (h1 : LAt w lo1 a1 Q) (h2 : LAt w lo2 a2 R) (hn : n ≤ 3000000000000000) (hk : ∀ x ∈ Q, x.ks.length ≤ 3000000000000000) :
    Calls Try.prog 22 #[.slice a1 n c1, .slice a2 n c2] w fun e w' => e = .returned (.bool true) ∧ Below w.heap.size w w' := by
  replace hQ := hid hQ
  replace hR := hid hR
  replace hf := hid hf
  replace hk := hid hk
  go_enter Try.func22, Try.ntmps22
  go_wp2_with fail
  go_loopw [5] (fun i wr => ∃ j : Nat, j ≤ n ∧ i = .int .i64 (j : Int) ∧ Below w.heap.size w wr) (fun i _ => n - (intOf i).toNat)
  case atStart => exact ⟨0, Nat.zero_le _, rfl, Below.refl _ _⟩
  case round =>
    obtain ⟨j, hj, rfl, hb⟩ := hrel
    by_cases hlt : j < n
    · have hjQ : j < Q.length := by rw [hQ.out]; exact hlt
      have hjR : j < R.length := by rw [hR.out]; exact hlt
      obtain ⟨b1, o1, e1⟩ := h1.place (by intro e; rw [e] at hjQ; simp at hjQ)
      obtain ⟨b2, o2, e2⟩ := h2.place (by intro e; rw [e] at hjR; simp at hjR)
      subst e1 e2
      have g1 := h1.below hb
      have g2 := h2.below hb
      obtain ⟨x0, x1, x2⟩ := g1.one j hjQ
      obtain ⟨y0, y1, y2⟩ := g2.one j hjR
      have k1 := g1.kept _ (List.getElem_mem hjQ)
      have k2 := g2.kept _ (List.getElem_mem hjR)
      have hkj := hk.out _ (List.getElem_mem hjQ)
      have hfl : Q[j].flat = R[j].flat := by
        have := congrArg (fun l => l[j]?) hf.out
        simpa [hjQ, hjR] using this
      have f0 : Q[j].id = R[j].id := congrArg (fun x : PC => x.1) hfl
      have f1 : Q[j].fl = R[j].fl := congrArg (fun x : PC => x.2.1) hfl
      have f2 : Q[j].ks.map KV.flat = R[j].ks.map KV.flat := congrArg (fun x : PC => x.2.2) hfl
      have f3 : R[j].ks.length = Q[j].ks.length := by have := congrArg List.length f2; simpa using this.symm
      rw [f0] at x0
      rw [f1] at x1
      rw [f3] at y2
      generalize R[j].id = ID at x0 y0
      generalize R[j].fl = FL at x1 y1
      obtain ⟨ka, hka⟩ : ∃ ka, ka = Q[j].a := ⟨_, rfl⟩
      obtain ⟨kb, hkb⟩ : ∃ kb, kb = R[j].a := ⟨_, rfl⟩
      obtain ⟨K, hK⟩ : ∃ K, K = Q[j].ks := ⟨_, rfl⟩
      obtain ⟨K2, hK2⟩ : ∃ K2, K2 = R[j].ks := ⟨_, rfl⟩
      rw [← hka, ← hK] at x2 k1
      rw [← hkb, ← hK] at y2
      rw [← hkb, ← hK2] at k2
      rw [← hK, ← hK2] at f2 f3
      rw [← hK] at hkj
      generalize Q[j].c = kc at x2
      generalize R[j].c = kd at y2
      obtain ⟨m, hm⟩ : ∃ m, K.length = m := ⟨_, rfl⟩
      rw [hm] at x2 y2 hkj f3
      replace hm := hid hm
      replace f2 := hid f2
      replace f3 := hid f3
      clear hfl f0 f1 hka hkb hK hK2 g1 g2
      go_wp2_with fail
      go_quiet (fail)
      have hb2 := below_drewN hb nq
      have bd : Below wr.heap.size wr (wr.drewN nq) := below_drewN (Below.refl _ _) nq
      have k1' := k1.below bd
      have k2' := k2.below bd
      have x2' : (wr.drewN nq).cell? ⟨b1, o1 + j * 3 + 2, none⟩ = some (.slice ka m kc) := x2
      have y2' : (wr.drewN nq).cell? ⟨b2, o2 + j * 3 + 2, none⟩ = some (.slice kb m kd) := y2
      clear k1 k2 bd x0 x1 x2 y0 y1 y2 hb
      generalize wr.drewN nq = wa at *
      go_wp2_with fail
      go_loopw [6] (fun i wi => ∃ t : Nat, t ≤ m ∧ i = .int .i64 (t : Int) ∧ Below wa.heap.size wa wi) (fun i _ => m - (intOf i).toNat)
      case atStart => exact ⟨0, Nat.zero_le _, rfl, Below.refl _ _⟩
      case round =>
        obtain ⟨t, ht, rfl, hbt⟩ := hrel
        have z2 : wr.cell? ⟨b1, o1 + j * 3 + 2, none⟩ = some (.slice ka m kc) := by rw [hbt.cell (p := ⟨b1, o1 + j * 3 + 2, none⟩) (World.block_lt_of_cell? _ _ x2')]; exact x2'
        have v2 : wr.cell? ⟨b2, o2 + j * 3 + 2, none⟩ = some (.slice kb m kd) := by rw [hbt.cell (p := ⟨b2, o2 + j * 3 + 2, none⟩) (World.block_lt_of_cell? _ _ y2')]; exact y2'
        by_cases htm : t < m
        · have ht1 : t < K.length := by rw [hm.out]; exact htm
          have ht2 : t < K2.length := by rw [f3.out]; exact htm
          obtain ⟨p1, q1, e1⟩ := k1'.place (by intro e; rw [e] at ht1; simp at ht1)
          obtain ⟨p2, q2, e2⟩ := k2'.place (by intro e; rw [e] at ht2; simp at ht2)
          subst e1 e2
          have m1 := k1'.below hbt
          have m2 := k2'.below hbt
          obtain ⟨r0, r1⟩ := m1.one t ht1
          obtain ⟨s0, s1⟩ := m2.one t ht2
          have at1 := m1.body _ (List.getElem_mem ht1)
          have at2 := m2.body _ (List.getElem_mem ht2)
          have hel : K[t].flat = K2[t].flat := by
            have := congrArg (fun l => l[t]?) f2.out
            simpa [ht1, ht2] using this
          have g0 : K[t].num = K2[t].num := congrArg (fun x : PK => x.1) hel
          have g1 : K[t].body = K2[t].body := congrArg (fun x : PK => x.2) hel
          rw [g0] at r0
          rw [g1] at r1 at1
          generalize K2[t].num = num at r0 s0
          generalize K2[t].body = bd at r1 s1 at1 at2
          generalize K[t].a = aa at r1 at1
          generalize K[t].c = ca at r1
          generalize K2[t].a = ab at s1 at2
          generalize K2[t].c = cb at s1
          have hcall : ∀ q, Calls Try.prog 21 #[.slice aa bd.length ca, .slice ab bd.length cb] (wr.drewN q) fun e w' => e = .returned (.bool true) ∧ w' = wr.drewN q := fun q => same_any aa ab bd.length bd.length ca cb bd bd (wr.drewN q) rfl rfl (at1.below (below_drewN (Below.refl _ _) _)) (at2.below (below_drewN (Below.refl _ _) _)) rfl
          clear at1 at2 m1 m2 hel g0 g1
          generalize bd.length = len at *
          go_wp2_with fail
          go_quiet (first | (go_at_call 21; exact Calls.quiet_of_same (hcall _)))
          replace hbt := below_drewN hbt nq
          clear hcall r0 r1 s0 s1 z2 v2
          generalize wr.drewN nq = w3 at *
          go_wp2_with fail
          go_roundw
          case rel => exact ⟨t + 1, by omega, by go_num, hbt⟩
          case measure => simp [intOf]; omega
        · obtain rfl : t = m := by omega
          go_wp2_with fail
          go_roundw
          case rel => exact ⟨j + 1, by omega, by go_num, bnext hb2 hbt⟩
          case measure => simp [intOf]; omega
    · obtain rfl : j = n := by omega
      go_wp2
      go_ret
      exact ⟨rfl, hb⟩

end Go.Proofs.Ythjggjjocfbjcaa
