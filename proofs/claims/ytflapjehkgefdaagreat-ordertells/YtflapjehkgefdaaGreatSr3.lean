/- symMergeCmpFunc of places: its two small ways. -/
import Derived.Test.YtflapjehkgefdaaGreatSr2
namespace Go.Proofs.YtflapjehkgefdaaGreat
open Go.Shelf Go.RowKit Go.Lib Go.Sort
set_option linter.unusedVariables false
variable {w0 W : World} {blk off : Nat} {d0 dk : Array Plc}

theorem mixed1 : Tryz.prog.follows .mixedOrders = true := by kernel_rfl
/-- The cells of one place, whatever was drawn and laid. -/
theorem pcs_of (S : SWK plc 2 w0 blk off dk W) (R : RowK plc 2 w0 blk off d0) (hs : dk.size = d0.size) (i : Nat) (hi : i < dk.size) {x : Plc} (hx : dk[i]! = x) :
    (∀ n os, (grow (W.drewN n) os).cell? ⟨blk, off + i * 2, none⟩ = some (.int .i64 x.1)) ∧ (∀ n os, (grow (W.drewN n) os).cell? ⟨blk, off + i * 2 + 1, none⟩ = some (.int .i64 x.2)) := by
  subst hx
  exact ⟨fun n os => (pc_of (S.grown n os) R hs i hi).c0, fun n os => (pc_of (S.grown n os) R hs i hi).c1⟩

theorem pcmp {cf : Plc → Plc → Int} {size : Nat} (h : SWK plc 2 w0 blk off dk W) (hC : CmpLays Tryz.prog 29 #[] plc 2 cf blk off size w0) (hs : dk.size = size) (x y : Plc) (n : Nat) (os : Array Obj) :
    Calls Tryz.prog 29 #[.agg #[.int .i64 x.1, .int .i64 x.2], .agg #[.int .i64 y.1, .int .i64 y.2]] (grow (W.drewN n) os) fun e w' => e = .returned (.int .i64 (cf x y)) ∧ ∃ q os', w' = grow ((grow (W.drewN n) os).drewN q) os' := h.cmp hC hs x y n os

set_option maxHeartbeats 400000 in
set_option maxRecDepth 100000 in
theorem sym1 (cap a m b k : Nat) (d : Array Plc) (cf : Plc → Plc → Int) (hO : SWO (ltOf cf)) (w : World) (hC : CmpLays Tryz.prog 29 #[] plc 2 cf blk off k w0) (R : RowK plc 2 w0 blk off d0) (hs : d.size = d0.size) (hk : d.size = k) (S : SWK plc 2 w0 blk off d w)
    (ham : m = a + 1) (hmb : m < b) (hb : b ≤ k) (hsz : k < 4611686018427387904) (h1 : SortedIn (ltOf cf) m b d) :
    Calls Tryz.prog 78 #[.slice (some ⟨blk, off, none⟩) k cap, .int .i64 a, .int .i64 m, .int .i64 b, .func (.func 29) #[] #[]] w fun e w' => e = .returned (.tuple #[]) ∧ ∃ d', (PermIn a b d d' ∧ SortedIn (ltOf cf) a b d') ∧ SWK plc 2 w0 blk off d' w' := by
  have S0 := hid S
  have HS := hid hs
  have HK := hid hk
  have HC := hid hC
  have HM := hid ham
  have t1 : ((m : Int) - a == 1) = true := by rw [beq_iff_eq]; omega
  have r1 : IntKind.i64.wrap ((m : Int) - a) = (m : Int) - a := by rw [IntKind.wrap_i64]; omega
  have mx := mixed1
  clear S hs hk hC ham
  go_enter Tryz.func78, Tryz.ntmps78
  go_wp2
  go_loopg [10, 11, 12] (b - m) (fun kx s10 s11 s12 wr => ∃ (i j : Nat), s10 = .int .i64 i ∧ s11 = .int .i64 j ∧ j - i ≤ kx ∧ Hid (Lo (ltOf cf) d a m b i j) ∧ Hid (SWK plc 2 w0 blk off d wr))
  case atStart => exact ⟨m, b, rfl, rfl, Nat.le_refl _, Lo.start (by omega), S0⟩
  case round =>
    clear S0 r1 t1
    obtain ⟨i, j, rfl, rfl, hkx, L, S1⟩ := hrel
    have hl := L.out.l
    have hm2 := L.out.m
    have hr := L.out.r
    by_cases hlt : i < j
    · have hltz : (i : Int) < (j : Int) := by omega
      go_wp2_with fail
      have hcz : ((i : Int) + j) / 2 = (((i + j) / 2 : Nat) : Int) := by omega
      have hcl : i ≤ (i + j) / 2 ∧ (i + j) / 2 < j := by omega
      rw [hcz]
      clear hcz
      generalize (i + j) / 2 = c at hcl ⊢
      obtain ⟨x, hx⟩ : ∃ x, x = d[c]! := ⟨_, rfl⟩
      obtain ⟨y, hy⟩ : ∃ y, y = d[a]! := ⟨_, rfl⟩
      have hsz2 : d.size = k := HK.out
      obtain ⟨l1, l2⟩ := pcs_of S1.out R HS.out c (by omega) hx.symm
      obtain ⟨l3, l4⟩ := pcs_of S1.out R HS.out a (by have := HM.out; omega) hy.symm
      have hcg := pcmp S1.out HC.out HK.out x y
      have ea : ((c : Int)).toNat = c := by omega
      have eb : ((a : Int)).toNat = a := by omega
      have ba : (c : Int) < (k : Int) := by omega
      have bb : (a : Int) < (k : Int) := by have := HM.out; omega
      have pa : (0 : Int) ≤ (c : Int) := by omega
      have pb : (0 : Int) ≤ (a : Int) := by omega
      replace hx := hid hx
      replace hy := hid hy
      replace hsz2 := hid hsz2
      by_cases hlv : cf x y < 0
      · have hL : Hid _ := hid (Lo.yes hO L.out h1 hcl.1 hcl.2 (by rw [← hx.out, ← hy.out]; exact decide_eq_true hlv))
        go_quiet_grown (first | (go_at_call 29; refine Calls.grown_of (hcg _ _)))
        have S2 := hid (S1.out.grown nq osq)
        clear l1 l2 l3 l4 hcg S1
        generalize grow (wr.drewN nq) osq = w2 at S2 ⊢
        go_wp2
        go_roundg (j - (c + 1))
        case measure => omega
        case rel => exact ⟨c + 1, j, by simp, rfl, Nat.le_refl _, hL, S2⟩
      · have hL : Hid _ := hid (Lo.no hO L.out h1 hcl.1 hcl.2 (by rw [← hx.out, ← hy.out]; exact decide_eq_false hlv))
        have hlf : decide (cf x y < 0) = false := decide_eq_false hlv
        go_quiet_grown (first | (go_at_call 29; refine Calls.grown_of (hcg _ _)))
        have S2 := hid (S1.out.grown nq osq)
        clear l1 l2 l3 l4 hcg S1
        generalize grow (wr.drewN nq) osq = w2 at S2 ⊢
        go_wp2
        go_roundg (c - i)
        case measure => omega
        case rel => exact ⟨i, c, rfl, rfl, Nat.le_refl _, hL, S2⟩
    · have hij : j = i := by omega
      subst hij
      have hltz : ¬ (j : Int) < (j : Int) := by omega
      go_wp2_with fail
      clear hltz
      have hR0 : Hid (Rot d a (a + 1) (a + 1) d) := hid (Rot.none' (by omega))
      go_loopg [13] b (fun kx s13 wr => ∃ (q : Nat) (dk : Array Plc), s13 = .int .i64 q ∧ a ≤ q ∧ q < j ∧ j - q ≤ kx ∧ Hid (Rot d a (a + 1) (q + 1) dk) ∧ Hid (SWK plc 2 w0 blk off dk wr))
      case atStart => exact ⟨a, d, rfl, Nat.le_refl _, by have := HM.out; omega, by omega, hR0, S1⟩
      case round =>
        clear S1 hR0
        obtain ⟨q, dk, rfl, haq, hqj, hkx2, hR, S1⟩ := hrel
        have r2 : IntKind.i64.wrap ((j : Int) - 1) = (j : Int) - 1 := by rw [IntKind.wrap_i64]; omega
        have r3 : IntKind.i64.wrap ((q : Int) + 1) = (q : Int) + 1 := by rw [IntKind.wrap_i64]; omega
        by_cases hlt2 : q < j - 1
        · have d1 : (q : Int) < (j : Int) - 1 := by omega
          go_wp2_with fail
          have hsz2 : dk.size = k := hR.out.size.trans HK.out
          have ea : ((q : Int)).toNat = q := by omega
          have eb : ((q : Int) + 1).toNat = q + 1 := by omega
          have ba : (q : Int) < (k : Int) := by omega
          have bb : (q : Int) + 1 < (k : Int) := by omega
          have pa : (0 : Int) ≤ (q : Int) := by omega
          have pb : (0 : Int) ≤ (q : Int) + 1 := by omega
          obtain ⟨x, hx⟩ : ∃ x, x = dk[q]! := ⟨_, rfl⟩
          obtain ⟨y, hy⟩ : ∃ y, y = dk[q + 1]! := ⟨_, rfl⟩
          have A := pc_of S1.out R (hR.out.size.trans HS.out) q (by omega)
          have B := pc_of S1.out R (hR.out.size.trans HS.out) (q + 1) (by omega)
          have S2 := pswap S1.out R q (q + 1) (by omega) (by omega) hx.symm hy.symm
          rw [← hx] at A
          rw [← hy] at B
          have R2 := hid (Rot.up (by have := HK.out; omega) haq hR.out)
          replace hsz2 := hid hsz2
          clear hx hy
          have a0 := A.c0; have a1 := A.c1; have a2 := A.f0; have a3 := A.f1
          have b0 := B.c0; have b1 := B.c1; have b2 := B.f0; have b3 := B.f1
          clear A B
          go_region
          generalize (((((wr.setCell ⟨blk, off + q * 2, none⟩ (.int .i64 y.1)).setCell ⟨blk, off + q * 2 + 1, none⟩ (.int .i64 y.2)).setCell ⟨blk, off + (q + 1) * 2, none⟩ (.int .i64 x.1)).setCell ⟨blk, off + (q + 1) * 2 + 1, none⟩ (.int .i64 x.2)).drew) = w2 at S2 ⊢
          clear a0 a1 a2 a3 b0 b1 b2 b3
          replace S2 := hid S2
          go_wp2
          go_roundg (j - (q + 1))
          case measure => omega
          case rel => exact ⟨q + 1, _, by simp, by omega, by omega, Nat.le_refl _, R2, S2⟩
        · have e : j = q + 1 := by omega
          have d1 : ¬ (q : Int) < (j : Int) - 1 := by omega
          replace e := hid e
          go_wp2
          (try simp only [Exit.inBlock, Exit.then]); refine bodyPost_ret (results_none rfl _ _ _) rfl ?_
          have hL : Lo (ltOf cf) d a (a + 1) b j j := by have h := L.out; rwa [HM.out] at h
          have hR1 : Rot d a (a + 1) j dk := by rw [e.out]; exact hR.out
          have hp := hR1.perm (by omega) (by omega) (by have := HK.out; omega)
          have h1' : SortedIn (ltOf cf) (a + 1) b d := by rw [← HM.out]; exact h1
          exact ⟨rfl, _, ⟨permIn_mono d dk a j a b (Nat.le_refl _) (by omega) (by have := HK.out; omega) hp, sorted_lo hO (by have := HM.out; omega) h1' hL hR1⟩, S1.out⟩
end Go.Proofs.YtflapjehkgefdaaGreat
