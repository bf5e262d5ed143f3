/- symMergeCmpFunc of places: its second small way. -/
import Derived.Test.YtflapjehkgefdaaGreatSr3
namespace Go.Proofs.YtflapjehkgefdaaGreat
open Go.Shelf Go.RowKit Go.Lib Go.Sort
set_option linter.unusedVariables false
variable {w0 W : World} {blk off : Nat} {d0 dk : Array Plc}

set_option maxHeartbeats 400000 in
set_option maxRecDepth 100000 in
theorem sym2 (cap a m b k : Nat) (d : Array Plc) (cf : Plc → Plc → Int) (hO : SWO (ltOf cf)) (w : World) (hC : CmpLays Tryz.prog 29 #[] plc 2 cf blk off k w0) (R : RowK plc 2 w0 blk off d0) (hs : d.size = d0.size) (hk : d.size = k) (S : SWK plc 2 w0 blk off d w)
    (ham : a + 1 < m) (hmb : b = m + 1) (hb : b ≤ k) (hsz : k < 4611686018427387904) (h1 : SortedIn (ltOf cf) a m d) :
    Calls Tryz.prog 78 #[.slice (some ⟨blk, off, none⟩) k cap, .int .i64 a, .int .i64 m, .int .i64 b, .func (.func 29) #[] #[]] w fun e w' => e = .returned (.tuple #[]) ∧ ∃ d', (PermIn a b d d' ∧ SortedIn (ltOf cf) a b d') ∧ SWK plc 2 w0 blk off d' w' := by
  have S0 := hid S
  have HS := hid hs
  have HK := hid hk
  have HC := hid hC
  have HM := hid hmb
  have t0 : ((m : Int) - a == 1) = false := by rw [beq_eq_false_iff_ne]; omega
  have t1 : ((b : Int) - m == 1) = true := by rw [beq_iff_eq]; omega
  have r0 : IntKind.i64.wrap ((m : Int) - a) = (m : Int) - a := by rw [IntKind.wrap_i64]; omega
  have r1 : IntKind.i64.wrap ((b : Int) - m) = (b : Int) - m := by rw [IntKind.wrap_i64]; omega
  have mx := mixed1
  have hmk : m < k := by omega
  clear S hs hk hC hmb
  go_enter Tryz.func78, Tryz.ntmps78
  go_wp2
  go_loopg [14, 15, 16] (m - a) (fun kx s10 s11 s12 wr => ∃ (i j : Nat), s10 = .int .i64 i ∧ s11 = .int .i64 j ∧ j - i ≤ kx ∧ Hid (Hi (ltOf cf) d m a m i j) ∧ Hid (SWK plc 2 w0 blk off d wr))
  case atStart => exact ⟨a, m, rfl, rfl, Nat.le_refl _, Hi.start (by omega), S0⟩
  case round =>
    clear S0 r0 r1 t0 t1
    obtain ⟨i, j, rfl, rfl, hkx, L, S1⟩ := hrel
    have hl := L.out.l
    have hm2 := L.out.m
    have hr := L.out.r
    by_cases hlt : i < j
    · have hltz : (i : Int) < (j : Int) := by omega
      go_wp2_with fail
      have hcz : ((i : Int) + j) / 2 = (((i + j) / 2 : Nat) : Int) := by omega
      have hcl : i ≤ (i + j) / 2 ∧ (i + j) / 2 < j := by omega
      rw [hcz]
      clear hcz
      generalize (i + j) / 2 = c at hcl ⊢
      obtain ⟨x, hx⟩ : ∃ x, x = d[m]! := ⟨_, rfl⟩
      obtain ⟨y, hy⟩ : ∃ y, y = d[c]! := ⟨_, rfl⟩
      have hsz2 : d.size = k := HK.out
      obtain ⟨l1, l2⟩ := pcs_of S1.out R HS.out m (by have := HM.out; omega) hx.symm
      obtain ⟨l3, l4⟩ := pcs_of S1.out R HS.out c (by have := HM.out; omega) hy.symm
      have hcg := pcmp S1.out HC.out HK.out x y
      have ea : ((c : Int)).toNat = c := by omega
      have eb : ((m : Int)).toNat = m := by omega
      have ba : (c : Int) < (k : Int) := by have := HM.out; omega
      have bb : (m : Int) < (k : Int) := by have := HM.out; omega
      have pa : (0 : Int) ≤ (c : Int) := by omega
      have pb : (0 : Int) ≤ (m : Int) := by omega
      replace hx := hid hx
      replace hy := hid hy
      replace hsz2 := hid hsz2
      by_cases hlv : cf x y < 0
      · have hL : Hid _ := hid (Hi.yes hO L.out h1 hcl.1 hcl.2 (by rw [← hx.out, ← hy.out]; exact decide_eq_true hlv))
        go_quiet_grown (first | (go_at_call 29; refine Calls.grown_of (hcg _ _)))
        have S2 := hid (S1.out.grown nq osq)
        clear l1 l2 l3 l4 hcg S1
        generalize grow (wr.drewN nq) osq = w2 at S2 ⊢
        go_wp2
        go_roundg (c - i)
        case measure => omega
        case rel => exact ⟨i, c, rfl, rfl, Nat.le_refl _, hL, S2⟩
      · have hL : Hid _ := hid (Hi.no hO L.out h1 hcl.1 hcl.2 (by rw [← hx.out, ← hy.out]; exact decide_eq_false hlv))
        have hlf : decide (cf x y < 0) = false := decide_eq_false hlv
        go_quiet_grown (first | (go_at_call 29; refine Calls.grown_of (hcg _ _)))
        have S2 := hid (S1.out.grown nq osq)
        clear l1 l2 l3 l4 hcg S1
        generalize grow (wr.drewN nq) osq = w2 at S2 ⊢
        go_wp2
        go_roundg (j - (c + 1))
        case measure => omega
        case rel => exact ⟨c + 1, j, by simp, rfl, Nat.le_refl _, hL, S2⟩
    · have hij : j = i := by omega
      subst hij
      have hltz : ¬ (j : Int) < (j : Int) := by omega
      go_wp2_with fail
      clear hltz
      have hR0 : Hid (Rot d m m (m + 1) d) := hid (Rot.none (by omega))
      go_loopg [17] (m + 1) (fun kx s13 wr => ∃ (q : Nat) (dk : Array Plc), s13 = .int .i64 q ∧ j ≤ q ∧ q ≤ m ∧ q ≤ kx ∧ Hid (Rot d q m (m + 1) dk) ∧ Hid (SWK plc 2 w0 blk off dk wr))
      case atStart => exact ⟨m, d, rfl, hr, Nat.le_refl _, by omega, hR0, S1⟩
      case round =>
        clear S1 hR0
        obtain ⟨q1, dk, rfl, haq, hqj, hkx2, hR, S1⟩ := hrel
        by_cases hlt2 : j < q1
        · obtain ⟨q, rfl⟩ : ∃ q, q1 = q + 1 := ⟨q1 - 1, by omega⟩
          have d1 : (j : Int) < ((q + 1 : Nat) : Int) := by omega
          have r3 : IntKind.i64.wrap (q : Int) = (q : Int) := by rw [IntKind.wrap_i64]; have := HM.out; omega
          go_wp2_with fail
          have hsz2 : dk.size = k := hR.out.size.trans HK.out
          have ea : ((q : Int)).toNat = q := by omega
          have eb : ((q : Int) + 1).toNat = q + 1 := by omega
          have ba : (q : Int) < (k : Int) := by have := HM.out; omega
          have bb : (q : Int) + 1 < (k : Int) := by have := HM.out; omega
          have pa : (0 : Int) ≤ (q : Int) := by omega
          have pb : (0 : Int) ≤ (q : Int) + 1 := by omega
          have ec : (q : Int) + 1 - 1 = (q : Int) := by omega
          obtain ⟨x, hx⟩ : ∃ x, x = dk[q]! := ⟨_, rfl⟩
          obtain ⟨y, hy⟩ : ∃ y, y = dk[q + 1]! := ⟨_, rfl⟩
          have A := pc_of S1.out R (hR.out.size.trans HS.out) q (by have := HM.out; omega)
          have B := pc_of S1.out R (hR.out.size.trans HS.out) (q + 1) (by have := HM.out; omega)
          have S2 := pswap S1.out R (q + 1) q (by have := HM.out; omega) (by have := HM.out; omega) hy.symm hx.symm
          rw [← hx] at A
          rw [← hy] at B
          have R2 := hid (Rot.down (by have := HK.out; have := HM.out; omega) hqj hR.out)
          replace hsz2 := hid hsz2
          clear hx hy
          have a0 := A.c0; have a1 := A.c1; have a2 := A.f0; have a3 := A.f1
          have b0 := B.c0; have b1 := B.c1; have b2 := B.f0; have b3 := B.f1
          clear A B
          go_region
          generalize (((((wr.setCell ⟨blk, off + (q + 1) * 2, none⟩ (.int .i64 x.1)).setCell ⟨blk, off + (q + 1) * 2 + 1, none⟩ (.int .i64 x.2)).setCell ⟨blk, off + q * 2, none⟩ (.int .i64 y.1)).setCell ⟨blk, off + q * 2 + 1, none⟩ (.int .i64 y.2)).drew) = w2 at S2 ⊢
          clear a0 a1 a2 a3 b0 b1 b2 b3
          replace S2 := hid S2
          go_wp2
          go_roundg q
          case measure => omega
          case rel => exact ⟨q, _, by simp, by omega, by omega, Nat.le_refl _, R2, S2⟩
        · have e : q1 = j := by omega
          have d1 : ¬ (j : Int) < (q1 : Int) := by omega
          replace e := hid e
          go_wp2
          (try simp only [Exit.inBlock, Exit.then]); refine bodyPost_ret (results_none rfl _ _ _) rfl ?_
          have hR1 : Rot d j m (m + 1) dk := by rw [← e.out]; exact hR.out
          have hp := hR1.perm (by omega) (by omega) (by have := HK.out; have := HM.out; omega)
          refine ⟨rfl, _, ⟨?_, ?_⟩, S1.out⟩
          · rw [HM.out]; exact permIn_mono d dk j (m + 1) a (m + 1) (by omega) (Nat.le_refl _) (by have := HK.out; have := HM.out; omega) hp
          · rw [HM.out]; exact sorted_hi hO (by omega) h1 L.out hR1
end Go.Proofs.YtflapjehkgefdaaGreat
