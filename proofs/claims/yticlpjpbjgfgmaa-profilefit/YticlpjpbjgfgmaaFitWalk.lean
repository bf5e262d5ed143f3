/- ProfileFit, walked. -/
import Derived.Test.YticlpjpbjgfgmaaRefFit
import Derived.Test.YticlpjpbjgfgmaaBl
import Derived.Test.YticlpjpbjgfgmaaAwake
import Derived.Test.YticlpjpbjgfgmaaRp
import Derived.Test.YticlpjpbjgfgmaaBack
import Derived.Deep.DeepCutAuto
namespace Go.Proofs.Yticlpjpbjgfgmaa
open Go.RowKit

theorem ABlk.free5 {w : World} {g : Nat} {A : AskP} {a : Option Addr} {n c : Nat} (h : ABlk w g A a n c) : w.frozen? ⟨g, 5, none⟩ = false := frozen_of_row w g 5 _ 44 h

set_option maxRecDepth 100000 in
set_option maxHeartbeats 4000000 in
theorem pfit_any (a : Option Addr) (n c0 : Nat) (L : List Nd1) (A : AskP) (ba : Option Addr) (bn bc0 : Nat) (w : World) (hn : L.length = n) (hl : n ≤ 4611686018427387904) (hs : ∀ x ∈ L, x.C.length ≤ 140737488355328) (hat : PAt w a L) (hbn : A.bs.length = bn) (hbl : bn ≤ 4611686018427387904) (hbs : ∀ b ∈ A.bs, b.nodes < 4294967296) (hnd : A.nodes < 4294967296) (hba : BAt w ba A.bs) :
    Calls Try.prog 4 #[.slice a n c0, A.val ba bn bc0] w fun e w' => e = .returned (.bool true) ∧ Below w.heap.size w w' := by
  have hask := ABlk.new w A ba bn bc0
  have b0 := below_lit w (.cells (A.cells ba bn bc0) 44)
  have kB := big_any a n c0 L _ hn hl hs (hat.below b0)
  have kW := fun w => awake_any w
  have hs2 : ∀ x ∈ L, x.C.length ≤ 4611686018427387904 := fun x hx => by have := hs x hx; omega
  rw [show A.val ba bn bc0 = .agg (A.cells ba bn bc0) from rfl]
  have hat0 := hid (hat.below b0)
  have hba0 := hid (hba.below b0)
  clear hat hba hs
  replace hn := hid hn
  replace hs2 := hid hs2
  replace hbn := hid hbn
  replace hbs := hid hbs
  have e5 := hask.c5
  replace hask := hid hask
  go_enter Try.func4, Try.ntmps4
  go_wp2_with fail
  generalize w.alloc (.cells (A.cells ba bn bc0) 44) = wa at *
  refine kB.mono ?_
  rintro e w1 ⟨b, rfl, rfl, hbig⟩
  cases b with
  | true =>
    clear hbig
    go_wp2_with fail
    refine (kW _).mono ?_
    rintro e w2 ⟨rfl, hb2⟩
    have B2 := bnext b0 hb2
    go_wp2
    go_ret
    exact ⟨rfl, B2⟩
  | false =>
    have hbg := hid (hbig rfl)
    clear hbig kB
    by_cases h100 : 100 < (bn : Int)
    · have d100 : decide (100 < (bn : Int)) = true := decide_eq_true h100
      go_wp2_with fail
      refine (kW _).mono ?_
      rintro e w2 ⟨rfl, hb2⟩
      have B2 := bnext b0 hb2
      go_wp2
      go_ret
      exact ⟨rfl, B2⟩
    · have d100 : decide (100 < (bn : Int)) = false := decide_eq_false h100
      have hn40 : n ≤ 40 := by have := hbg.out.1; rw [hn.out] at this; exact this
      have kC := fun w' (h : Below w1.heap.size w1 w') => rcopy_any a n c0 L w' hn.out (by omega) (fun x hx => by have := hbg.out.2 x hx; omega) (hat0.out.below h)
      unfold CpTold at kC
      rw [hn.out] at kC
      have kD := fun w' (h : Below w1.heap.size w1 w') => copyb_any ba bn bc0 A.bs w' hbn.out (by omega) (hba0.out.below h)
      have hS := hid (fun w' (h : Below w1.heap.size w1 w') => stay h e5)
      go_upto_region 3 with fail
      go_cut [5, 6] (fun s5 s6 wx => ∃ a1 k1 M ad kb, s5 = .slice a1 n k1 ∧ s6 = .slice ad bn kb ∧ Hid (cutsOf M = cutsOf L ∧ PAt wx a1 M ∧ BAt wx ad A.bs) ∧ Below w1.heap.size w1 wx)
      case first =>
        go_region_held (fun w' : World => w'.cell? ⟨w.heap.size, 5, none⟩ = some (.slice ba bn bc0))
          (first | exact hS.out _ (bnext (bnext (drew_below _) hb4) hb5) | exact hS.out _ (bnext (bnext (drew_below _) hb5) hb4) | exact hS.out _ (bnext (drew_below _) hb4) | exact hS.out _ (bnext (drew_below _) hb5) | exact hS.out _ (drew_below _))
          (first | (go_at_call 9; (first | refine (kC _ (drew_below _)).mono ?_ | refine (kC _ (bnext (drew_below _) hb5)).mono ?_); rintro e w4 ⟨a1, k1, M, rfl, hM, O4, hb4⟩) | (go_at_call 21; (first | refine (kD _ (drew_below _)).mono ?_ | refine (kD _ (bnext (drew_below _) hb4)).mono ?_); rintro e w5 ⟨ad, kb, rfl, O5, hb5⟩))
        all_goals
          replace O4 := hid O4
          replace O5 := hid O5
          replace hM := hid hM
          go_wp2_with fail
          go_meet
          first
          | exact ⟨a1, k1, M, ad, kb, rfl, rfl, hid ⟨hM.out, O4.out.pat.below hb5, owns_cat O5.out⟩, bnext (bnext (drew_below _) hb4) hb5⟩
          | exact ⟨a1, k1, M, ad, kb, rfl, rfl, hid ⟨hM.out, O4.out.pat, BAt.below (owns_cat O5.out) hb4⟩, bnext (bnext (drew_below _) hb5) hb4⟩
      case rest =>
        obtain ⟨a1, k1, M, ad, kb, rfl, rfl, hh, hbx⟩ := hcut
        obtain ⟨hM, hP, hD⟩ := hh.out
        clear hh kC kD hS e5
        have hMn := hid (show M.length = n by rw [← cutsOf_len, hM, cutsOf_len]; exact hn.out)
        have hMs := hid (show ∀ x ∈ M, x.C.length ≤ 4611686018427387904 from fun x hx => by
          have h1 : x.C ∈ cutsOf M := List.mem_map.2 ⟨x, hx, rfl⟩
          rw [hM] at h1
          obtain ⟨y, hy, e⟩ := List.mem_map.1 h1
          rw [← e]; exact hs2.out y hy)
        replace hM := hid hM
        have haskx := hid (hask.out.below hbx)
        have e0 := haskx.out.c0
        have e1 := haskx.out.c1
        have e2 := haskx.out.c2
        have e3 := haskx.out.c3
        have e4 := haskx.out.c4
        have e5 := haskx.out.c5
        have hnew := hid (ABlk.new wc A ba bn bc0)
        have z5 : (wc.alloc (.cells #[.int .i64 A.count, .int .i64 A.cores, .int .i64 A.limit, .int .i64 A.fr, .int .u32 (A.nodes : Int), .slice ba bn bc0] 44)).cell? ⟨wc.heap.size, 5, none⟩ = some (.slice ba bn bc0) := hnew.out.c5
        have f5 : (wc.alloc (.cells #[.int .i64 A.count, .int .i64 A.cores, .int .i64 A.limit, .int .i64 A.fr, .int .u32 (A.nodes : Int), .slice ba bn bc0] 44)).frozen? ⟨wc.heap.size, 5, none⟩ = false := hnew.out.free5
        have hset := hid (show ABlk (wc.alloc (.cells #[.int .i64 A.count, .int .i64 A.cores, .int .i64 A.limit, .int .i64 A.fr, .int .u32 (A.nodes : Int), .slice ad bn kb] 44)) wc.heap.size A ad bn kb from ABlk.new wc A ad bn kb)
        have q0 : (wc.alloc (.cells #[.int .i64 A.count, .int .i64 A.cores, .int .i64 A.limit, .int .i64 A.fr, .int .u32 (A.nodes : Int), .slice ad bn kb] 44)).cell? ⟨wc.heap.size, 0, none⟩ = some (.int .i64 A.count) := hset.out.c0
        have q1 : (wc.alloc (.cells #[.int .i64 A.count, .int .i64 A.cores, .int .i64 A.limit, .int .i64 A.fr, .int .u32 (A.nodes : Int), .slice ad bn kb] 44)).cell? ⟨wc.heap.size, 1, none⟩ = some (.int .i64 A.cores) := hset.out.c1
        have q2 : (wc.alloc (.cells #[.int .i64 A.count, .int .i64 A.cores, .int .i64 A.limit, .int .i64 A.fr, .int .u32 (A.nodes : Int), .slice ad bn kb] 44)).cell? ⟨wc.heap.size, 2, none⟩ = some (.int .i64 A.limit) := hset.out.c2
        have q3 : (wc.alloc (.cells #[.int .i64 A.count, .int .i64 A.cores, .int .i64 A.limit, .int .i64 A.fr, .int .u32 (A.nodes : Int), .slice ad bn kb] 44)).cell? ⟨wc.heap.size, 3, none⟩ = some (.int .i64 A.fr) := hset.out.c3
        have q4 : (wc.alloc (.cells #[.int .i64 A.count, .int .i64 A.cores, .int .i64 A.limit, .int .i64 A.fr, .int .u32 (A.nodes : Int), .slice ad bn kb] 44)).cell? ⟨wc.heap.size, 4, none⟩ = some (.int .u32 (A.nodes : Int)) := hset.out.c4
        have q5 : (wc.alloc (.cells #[.int .i64 A.count, .int .i64 A.cores, .int .i64 A.limit, .int .i64 A.fr, .int .u32 (A.nodes : Int), .slice ad bn kb] 44)).cell? ⟨wc.heap.size, 5, none⟩ = some (.slice ad bn kb) := hset.out.c5
        have hb5 : Below wc.heap.size wc (wc.alloc (.cells #[.int .i64 A.count, .int .i64 A.cores, .int .i64 A.limit, .int .i64 A.fr, .int .u32 (A.nodes : Int), .slice ad bn kb] 44)) := below_lit wc _
        have kF1 := fit_any a1 n k1 M A ad bn kb (wc.alloc (.cells #[.int .i64 A.count, .int .i64 A.cores, .int .i64 A.limit, .int .i64 A.fr, .int .u32 (A.nodes : Int), .slice ad bn kb] 44)) hMn.out hl hMs.out (hP.below hb5) hbn.out hbl hbs.out hnd (hD.below hb5)
        rw [hM.out] at kF1
        unfold AskP.val AskP.cells at kF1
        replace hP := hid hP
        replace hD := hid hD
        go_wp2_with fail
        clear q0 q1 q2 q3 q4 q5 e0 e1 e2 e3 e4 e5 z5 f5 hset hnew
        generalize wc.alloc (.cells #[.int .i64 A.count, .int .i64 A.cores, .int .i64 A.limit, .int .i64 A.fr, .int .u32 (A.nodes : Int), .slice ad bn kb] 44) = w5 at *
        refine kF1.mono ?_
        rintro e w6 ⟨t, on, er, rfl, hF1, hb6⟩
        replace hF1 := hid hF1
        have b6 := bnext hb5 hb6
        have haskw := haskx.out.below b6
        have e0 := haskw.c0
        have e1 := haskw.c1
        have e2 := haskw.c2
        have e3 := haskw.c3
        have e4 := haskw.c4
        have e5 := haskw.c5
        have kF2 := rfit_any a n c0 L A ba bn bc0 w6 hn.out hl hs2.out (hat0.out.below (bnext hbx b6)) hbn.out hbl hbs.out hnd (hba0.out.below (bnext hbx b6))
        unfold AskP.val AskP.cells at kF2
        clear kF1 haskw
        go_wp2_with fail
        refine kF2.mono ?_
        rintro e w7 ⟨t', on', er', rfl, hF2, hb7⟩
        obtain ⟨rfl, rfl, rfl⟩ := hF1.out.uniq hF2
        clear hF1 hF2 kF2 e0 e1 e2 e3 e4 e5
        have b7 := bnext b6 hb7
        have b17 := bnext hbx b7
        have kS := psame_any a1 a n k1 c0 M L w7 hMn.out hl hMs.out hM.out (hP.out.below b7) (hat0.out.below b17)
        go_wp2_with fail
        refine kS.mono ?_
        rintro e w8 ⟨rfl, hb8⟩
        have b8 := bnext b7 hb8
        have b18 := bnext b17 hb8
        have e5 := (haskx.out.below b8).c5
        have kQ := sameb_any ad ba bn kb bc0 A.bs w8 hbn.out hbl (hD.out.below b8) (hba0.out.below b18)
        clear kS
        go_wp2_with fail
        refine kQ.mono ?_
        rintro e w9 ⟨rfl, hb9⟩
        have b19 := bnext b18 hb9
        clear kQ e5
        go_wp2_with fail
        refine (kW _).mono ?_
        rintro e w10 ⟨rfl, hb10⟩
        have b20 := bnext b0 (bnext b19 hb10)
        go_wp2
        go_ret
        exact ⟨rfl, b20⟩

end Go.Proofs.Yticlpjpbjgfgmaa
