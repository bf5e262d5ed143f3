/- The document's Minus and RightAsk. -/
import Derived.Test.YticlpjpbjgfgmaaRp3
import Derived.Test.YticlpjpbjgfgmaaFitsP
import Derived.Test.YticlpjpbjgfgmaaNdRef2
namespace Go.Proofs.Yticlpjpbjgfgmaa
open Go.RowKit
open Nd (ofN L2 ofP)

theorem gset_minus {s t : Nat} (hs : s < 4294967296) (ht : t < 4294967296) : gset s (fun i => !t.testBit i) 32 = s &&& (4294967295 - t) := by
  refine Nd.ext32 (gset_lt _ _ (Nat.le_refl _)) (Nat.lt_of_le_of_lt Nat.and_le_left hs) fun i hi => ?_
  rw [gset_bit, Nat.testBit_and, Nd.bit_not _ ht i hi, decide_eq_true hi, Bool.true_and]

set_option maxRecDepth 100000 in
set_option maxHeartbeats 800000 in
theorem minusr_any (s t : Nat) (hs : s < 4294967296) (ht : t < 4294967296) (w : World) :
    Calls Try.prog 74 #[.int .u32 (s : Int), .int .u32 (t : Int)] w fun e w' => e = .returned (.int .u32 ((s &&& (4294967295 - t) : Nat) : Int)) ∧ Below w.heap.size w w' := by
  obtain ⟨i0, hi0, hz0, hz1, hz2⟩ := info_parts Nd.info3
  have hf := hid (gset_minus hs ht)
  obtain ⟨bf, hbfe⟩ : ∃ bf : Nat → Bool, bf = fun i => !t.testBit i := ⟨_, rfl⟩
  rw [← hbfe] at hf
  replace hbfe := hid hbfe
  go_enter Try.func74, Try.ntmps74
  go_wp2_with fail
  go_loopw [5, 6] (fun v i wr => ∃ j : Nat, j ≤ 32 ∧ i = .int .i64 (j : Int) ∧ Hid (Nd.NOwn wr w.heap.size v (L2 (fsel s bf j))) ∧ Below w.heap.size w wr) (fun _ i _ => 32 - (intOf i).toNat)
  case atStart => exact ⟨0, Nat.zero_le _, rfl, hid (by unfold Nd.NOwn; exact World.ownsRow_nil _ _ _ _), Below.refl _ _⟩
  case round =>
    obtain ⟨j, hj, rfl, hv, hb⟩ := hrel
    by_cases hlt : j < 32
    · have hbj : bf j = !t.testBit j := by rw [hbfe.out]
      have kH := fun w => Nd.hasr_any s (j : Int) hs (by omega) (by omega) w
      rw [Nd.hasR_nat s j hlt] at kH
      have kT := fun w => Nd.hasr_any t (j : Int) ht (by omega) (by omega) w
      rw [Nd.hasR_nat t j hlt] at kT
      have hll := fsel_len s bf j
      have hl2 : (L2 (fsel s bf j)).length ≤ 32 := by simp [L2]; omega
      have hy := hid (fun (a : s.testBit j = true) (b : bf j = true) => fsel_yes a b)
      have hno := hid (fun (a : (s.testBit j && bf j) = false) => fsel_no a)
      cases hbit : s.testBit j
      · have hse := hid (hno.out (by rw [hbit]; rfl))
        rw [hbit] at kH
        go_wp2_with fail
        refine (kH _).mono ?_
        rintro e w3 ⟨rfl, rfl⟩
        have hv2 := hid (show Nd.NOwn w3 w.heap.size u5 (L2 (fsel s bf (j + 1))) by rw [hse.out]; exact hv.out)
        go_wp2_with fail
        go_roundw
        case rel => exact ⟨j + 1, by omega, by go_num, hv2, hb⟩
        case measure => simp [intOf]; omega
      · rw [hbit] at kH
        cases htb : t.testBit j
        · rw [htb] at kT hbj
          have hse := hid (hy.out hbit hbj)
          replace hbj := hid hbj
          go_wp2_with fail
          refine (kH _).mono ?_
          rintro e w3 ⟨rfl, rfl⟩
          go_wp2_with fail
          refine (kT _).mono ?_
          rintro e w4 ⟨rfl, rfl⟩
          go_wp2_with (at_builtin; refine Hid.out ?_)
          refine hid ?_
          have bl := below_lit w4 (.cells #[.int .i64 (j : Int)] 3)
          have hv4 := owns_below hv.out bl
          have B4 := bnext hb bl
          refine wpList_cat _ rfl (.tmp 22) (.tmp 24) 22 rfl w.heap.size 3 i0 _ 1 8 Try.underlying22 hi0 hz0 hz1 hz2 rfl (by omega) _ _ _ rfl hv4 (some ⟨w4.heap.size, 0, none⟩) 1 1 [.int .i64 (j : Int)] rfl rfl (cat_lit _ _ _ _ rfl) (Nd.int_one _) (by unfold maxLen; omega) (by omega) B4.size ?_
          intro v5 w5 hr5 hg5 hv5
          have B5 := B4.grown hg5 B4.size (fun k hk => (hv4.lt k hk).1)
          have hv6 := hid (show Nd.NOwn w5 w.heap.size v5 (L2 (fsel s bf (j + 1))) by
            rw [hse.out, l2_snoc]
            unfold Nd.NOwn
            simpa [Nd.I] using hr5)
          go_wp2_with fail
          go_roundw
          case rel => exact ⟨j + 1, by omega, by go_num, hv6, B5⟩
          case measure => simp [intOf]; omega
        · rw [htb] at kT hbj
          have hse := hid (hno.out (by rw [hbj]; simp))
          replace hbj := hid hbj
          go_wp2_with fail
          refine (kH _).mono ?_
          rintro e w3 ⟨rfl, rfl⟩
          go_wp2_with fail
          refine (kT _).mono ?_
          rintro e w4 ⟨rfl, rfl⟩
          have hv2 := hid (show Nd.NOwn w4 w.heap.size u5 (L2 (fsel s bf (j + 1))) by rw [hse.out]; exact hv.out)
          go_wp2_with fail
          go_roundw
          case rel => exact ⟨j + 1, by omega, by go_num, hv2, hb⟩
          case measure => simp [intOf]; omega
    · have hje : j = 32 := by omega
      subst hje
      have hll := fsel_len s bf 32
      obtain ⟨ad, k, e, _⟩ := owns_form hv.out
      have hcat := hv.out
      subst e
      have kO := Nd.ofr_any ad (L2 (fsel s bf 32)).length k (L2 (fsel s bf 32)) wr rfl (by simp [L2]; omega) (owns_cat hcat)
      rw [fsel_of s bf (Nat.le_refl _), hf.out] at kO
      clear hcat
      generalize (L2 (fsel s bf 32)).length = fl at *
      generalize hS : s &&& (4294967295 - t) = S at *
      replace hS := hid hS
      go_wp2_with fail
      refine kO.mono ?_
      rintro e w5 ⟨rfl, rfl⟩
      go_wp2
      go_ret
      rw [hS.out]; exact ⟨rfl, hb⟩

set_option maxRecDepth 100000 in
set_option maxHeartbeats 1600000 in
theorem rightask_any (A : AskP) (a : Option Addr) (n c : Nat) (w : World) (hn : A.bs.length = n) (hl : n ≤ 4611686018427387904) (hat : BAt w a A.bs) :
    Calls Try.prog 50 #[A.val a n c] w fun e w' => e = .returned (.bool (askB A)) ∧ Below w.heap.size w w' := by
  have hb0 := below_lit w (.cells (A.cells a n c) 44)
  have hA := ABlk.new w A a n c
  have c0 := hA.c0
  have c1 := hA.c1
  have c2 := hA.c2
  have c3 := hA.c3
  have c5 := hA.c5
  have hat0 := hid (hat.below hb0)
  have hB : askB A = (decide (¬ (A.count < 1)) && (decide (¬ (32 < A.count)) && (decide (¬ (A.cores < 1)) && (decide (¬ (64 < A.cores)) && (decide (¬ (A.limit < 1)) && (decide (¬ (1048576 < A.limit)) && (decide (¬ (A.fr < 0)) && (decide (¬ (1099511627776 < A.fr)) && (decide (¬ (4096 < (n : Int))) && decide (∀ b ∈ A.bs, winP b.f b.t)))))))))) := by
    rw [Bool.eq_iff_iff]
    simp only [askB_iff, Bool.and_eq_true, decide_eq_true_eq]
    rw [← hn]
    constructor
    · rintro ⟨h1, h2, h3, h4, h5, h6⟩; exact ⟨by omega, by omega, by omega, by omega, by omega, by omega, by omega, by omega, by omega, h6⟩
    · rintro ⟨h1, h2, h3, h4, h5, h6, h7, h8, h9, h10⟩; exact ⟨by omega, by omega, by omega, by omega, by omega, h10⟩
  clear hat
  have hc5 := hid (fun w' (h : Below (w.alloc (.cells (A.cells a n c) 44)).heap.size (w.alloc (.cells (A.cells a n c) 44)) w') => stay h c5)
  replace hA := hid hA
  replace hn := hid hn
  rw [show A.val a n c = .agg (A.cells a n c) from rfl]
  obtain ⟨W, hW⟩ : ∃ W, W = decide (∀ b ∈ A.bs, winP b.f b.t) := ⟨_, rfl⟩
  rw [← hW] at hB
  replace hW := hid hW
  obtain ⟨B, hBs⟩ : ∃ B, B = A.bs := ⟨_, rfl⟩
  rw [← hBs] at hat0 hW hn
  clear hA
  unfold AskP.cells at *
  generalize A.count = X0 at *
  generalize A.cores = X1 at *
  generalize A.limit = X2 at *
  generalize A.fr = X3 at *
  generalize A.nodes = X4 at *
  generalize askB A = R at *
  clear hBs
  by_cases k0 : X0 < 1
  · have d0 : decide (X0 < 1) = true := decide_eq_true k0
    have hf := hid (show R = false by rw [hB]; simp only [k0, not_true_eq_false, decide_false, Bool.false_and])
    clear hB hc5
    go_enter Try.func50, Try.ntmps50
    go_wp2
    go_ret
    rw [hf.out]; exact ⟨rfl, below_lit _ _⟩
  · have d0 : decide (X0 < 1) = false := decide_eq_false k0
    by_cases k1 : 32 < X0
    · have d1 : decide (32 < X0) = true := decide_eq_true k1
      have hf := hid (show R = false by rw [hB]; simp only [k0, k1, not_true_eq_false, not_false_eq_true, decide_false, decide_true, Bool.true_and, Bool.false_and])
      clear hB hc5
      go_enter Try.func50, Try.ntmps50
      go_wp2
      go_ret
      rw [hf.out]; exact ⟨rfl, below_lit _ _⟩
    · have d1 : decide (32 < X0) = false := decide_eq_false k1
      by_cases k2 : X1 < 1
      · have d2 : decide (X1 < 1) = true := decide_eq_true k2
        have hf := hid (show R = false by rw [hB]; simp only [k0, k1, k2, not_true_eq_false, not_false_eq_true, decide_false, decide_true, Bool.true_and, Bool.false_and])
        clear hB hc5
        go_enter Try.func50, Try.ntmps50
        go_wp2
        go_ret
        rw [hf.out]; exact ⟨rfl, below_lit _ _⟩
      · have d2 : decide (X1 < 1) = false := decide_eq_false k2
        by_cases k3 : 64 < X1
        · have d3 : decide (64 < X1) = true := decide_eq_true k3
          have hf := hid (show R = false by rw [hB]; simp only [k0, k1, k2, k3, not_true_eq_false, not_false_eq_true, decide_false, decide_true, Bool.true_and, Bool.false_and])
          clear hB hc5
          go_enter Try.func50, Try.ntmps50
          go_wp2
          go_ret
          rw [hf.out]; exact ⟨rfl, below_lit _ _⟩
        · have d3 : decide (64 < X1) = false := decide_eq_false k3
          by_cases k4 : X2 < 1
          · have d4 : decide (X2 < 1) = true := decide_eq_true k4
            have hf := hid (show R = false by rw [hB]; simp only [k0, k1, k2, k3, k4, not_true_eq_false, not_false_eq_true, decide_false, decide_true, Bool.true_and, Bool.false_and])
            clear hB hc5
            go_enter Try.func50, Try.ntmps50
            go_wp2
            go_ret
            rw [hf.out]; exact ⟨rfl, below_lit _ _⟩
          · have d4 : decide (X2 < 1) = false := decide_eq_false k4
            by_cases k5 : 1048576 < X2
            · have d5 : decide (1048576 < X2) = true := decide_eq_true k5
              have hf := hid (show R = false by rw [hB]; simp only [k0, k1, k2, k3, k4, k5, not_true_eq_false, not_false_eq_true, decide_false, decide_true, Bool.true_and, Bool.false_and])
              clear hB hc5
              go_enter Try.func50, Try.ntmps50
              go_wp2
              go_ret
              rw [hf.out]; exact ⟨rfl, below_lit _ _⟩
            · have d5 : decide (1048576 < X2) = false := decide_eq_false k5
              by_cases k6 : X3 < 0
              · have d6 : decide (X3 < 0) = true := decide_eq_true k6
                have hf := hid (show R = false by rw [hB]; simp only [k0, k1, k2, k3, k4, k5, k6, not_true_eq_false, not_false_eq_true, decide_false, decide_true, Bool.true_and, Bool.false_and])
                clear hB hc5
                go_enter Try.func50, Try.ntmps50
                go_wp2
                go_ret
                rw [hf.out]; exact ⟨rfl, below_lit _ _⟩
              · have d6 : decide (X3 < 0) = false := decide_eq_false k6
                by_cases k7 : 1099511627776 < X3
                · have d7 : decide (1099511627776 < X3) = true := decide_eq_true k7
                  have hf := hid (show R = false by rw [hB]; simp only [k0, k1, k2, k3, k4, k5, k6, k7, not_true_eq_false, not_false_eq_true, decide_false, decide_true, Bool.true_and, Bool.false_and])
                  clear hB hc5
                  go_enter Try.func50, Try.ntmps50
                  go_wp2
                  go_ret
                  rw [hf.out]; exact ⟨rfl, below_lit _ _⟩
                · have d7 : decide (1099511627776 < X3) = false := decide_eq_false k7
                  by_cases k8 : 4096 < (n : Int)
                  · have d8 : decide (4096 < (n : Int)) = true := decide_eq_true k8
                    have hf := hid (show R = false by rw [hB]; simp only [k0, k1, k2, k3, k4, k5, k6, k7, k8, not_true_eq_false, not_false_eq_true, decide_false, decide_true, Bool.true_and, Bool.false_and])
                    clear hB hc5
                    go_enter Try.func50, Try.ntmps50
                    go_wp2
                    go_ret
                    rw [hf.out]; exact ⟨rfl, below_lit _ _⟩
                  · have d8 : decide (4096 < (n : Int)) = false := decide_eq_false k8
                    have hf := hid (show R = W by rw [hB]; simp only [k0, k1, k2, k3, k4, k5, k6, k7, k8, not_false_eq_true, decide_true, Bool.true_and])
                    clear hB
                    go_enter Try.func50, Try.ntmps50
                    go_wp2_with fail
                    generalize w.alloc (.cells #[.int .i64 X0, .int .i64 X1, .int .i64 X2, .int .i64 X3, .int .u32 (X4 : Int), .slice a n c] 44) = wa at *
                    clear c0 c1 c2 c3 c5
                    go_loopw [3] (fun i wr => ∃ j : Nat, j ≤ n ∧ i = .int .i64 (j : Int) ∧ Hid (WinTo B j) ∧ Below wa.heap.size wa wr) (fun i _ => n - (intOf i).toNat)
                    case atStart => exact ⟨0, Nat.zero_le _, rfl, hid (fun x hx => by simp at hx), Below.refl _ _⟩
                    case round =>
                      obtain ⟨j, hj, rfl, hok, hb⟩ := hrel
                      have c5 := hc5.out _ hb
                      by_cases hlt : j < n
                      · have hjB : j < B.length := by rw [hn.out]; exact hlt
                        obtain ⟨b2, o2, e⟩ := hat0.out.place (by omega)
                        subst e
                        obtain ⟨x0, x1, x2⟩ := (hat0.out.below hb).one hjB
                        have hnext := hid (fun k => hok.out.next hjB k)
                        have hbad := hid (fun (k : ¬ winP B[j].f B[j].t) => show W = false by rw [hW.out]; exact decide_eq_false fun h => k (h _ (List.getElem_mem hjB)))
                        generalize B[j].nodes = Y0 at *
                        generalize B[j].f = Y1 at *
                        generalize B[j].t = Y2 at *
                        obtain ⟨z0, z1, z2⟩ := cells3 (w := wr) (.int .u32 (Y0 : Int)) (.int .i64 Y1) (.int .i64 Y2)
                        have bl := below_lit wr (.cells #[.int .u32 (Y0 : Int), .int .i64 Y1, .int .i64 Y2] 51)
                        have hb2 := bnext hb bl
                        have hb3 := bnext hb0 hb2
                        by_cases m1 : Y1 < 0
                        · have e1 : decide (Y1 < 0) = true := decide_eq_true m1
                          have hWf := hid (hbad.out fun h => by have := h.1; omega)
                          go_wp2
                          go_ret
                          rw [hf.out, hWf.out]; exact ⟨rfl, hb3⟩
                        · have e1 : decide (Y1 < 0) = false := decide_eq_false m1
                          by_cases m2 : Y2 ≤ Y1
                          · have e2 : decide (Y2 ≤ Y1) = true := decide_eq_true m2
                            have hWf := hid (hbad.out fun h => by have := h.2.1; omega)
                            go_wp2
                            go_ret
                            rw [hf.out, hWf.out]; exact ⟨rfl, hb3⟩
                          · have e2 : decide (Y2 ≤ Y1) = false := decide_eq_false m2
                            by_cases m3 : 2199023255552 < Y2
                            · have e3 : decide (2199023255552 < Y2) = true := decide_eq_true m3
                              have hWf := hid (hbad.out fun h => by have := h.2.2; omega)
                              go_wp2
                              go_ret
                              rw [hf.out, hWf.out]; exact ⟨rfl, hb3⟩
                            · have e3 : decide (2199023255552 < Y2) = false := decide_eq_false m3
                              have hok2 := hid (hnext.out ⟨by omega, by omega, by omega⟩)
                              go_wp2_with fail
                              go_roundw
                              case rel => exact ⟨j + 1, by omega, by go_num, hok2, hb2⟩
                              case measure => simp [intOf]; omega
                      · have hje : j = n := by omega
                        subst hje
                        have hWt := hid (show W = true by rw [hW.out]; exact decide_eq_true fun b h => hok.out b (by rw [← hn.out, List.take_length]; exact h))
                        have hb3 := bnext hb0 hb
                        go_wp2
                        go_ret
                        rw [hf.out, hWt.out]; exact ⟨rfl, hb3⟩

end Go.Proofs.Yticlpjpbjgfgmaa
