/- FilePlays: its walk. -/
import Derived.Test.YtpngnmogjmdmhaaPvP
import Derived.Test.YtpngnmogjmdmhaaAwake
import Derived.Deep.CutBlock
import Derived.Deep.Cut
namespace Go.Proofs.Ytpngnmogjmdmhaa
open Go.RowKit
set_option linter.unusedVariables false

def L16 : Array Value := #[.slice none 0 0, .slice none 0 0, .slice none 0 0, .slice none 0 0, .bool false, .int .i64 (-1), .int .i64 (-1), .int .i64 0, .slice none 0 0, .slice none 0 0, .slice none 0 0, .slice none 0 0, .bool false, .int .i64 (-1), .int .i64 (-1), .int .i64 0]

set_option maxRecDepth 1000000 in
set_option maxHeartbeats 8000000 in
theorem plays_any (a0 : Option Addr) (len0 cap0 : Nat) (ops : List Opr) (w : World) (hops : ops.length = len0) (hO : OAt w a0 ops) (hB : ∀ o ∈ ops, At w o.a o.body ∧ o.body.length ≤ o.c ∧ o.body.length ≤ 140737488355328 ∧ (Lit.int .i64 o.n).wf = true ∧ (Lit.int .i64 o.tn).wf = true) :
    Calls Try.prog 4 #[.slice a0 len0 cap0] w fun e w' => e = .returned (.bool true) ∧ Below w.heap.size w w' := by
  go_enter Try.func4, Try.ntmps4
  go_wp2_with fail
  refine (new_any w).mono ?_
  rintro e w1 ⟨p0, x0, rfl, h1, t1, r1, b1⟩
  go_wp2_with fail
  refine (new_any w1).mono ?_
  rintro e w2 ⟨p1, x1, rfl, h2, t2, r2, b2⟩
  replace h1 := hid h1
  replace h2 := hid h2
  go_wp2_with fail
  refine (rnew_any _).mono ?_
  rintro e w3 ⟨rfl, b3⟩
  go_wp2_with fail
  refine (rnew_any _).mono ?_
  rintro e w4 ⟨rfl, b4⟩
  have St := play_start (L := L16) rfl h1.out t1 r1 b1 h2.out t2 r2 b2 b3 b4
  unfold L16 at St
  replace St := hid St
  clear h1 h2 t1 t2 r1 r2 b1 b2 b3 b4
  simp only [RDx.cells, RDx.fv, rx0, Dsk.new, List.length_nil]
  go_wp2_with fail
  generalize w4.alloc (.cells #[.slice none 0 0, .slice none 0 0, .slice none 0 0, .slice none 0 0, .bool false, .int .i64 (-1), .int .i64 (-1), .int .i64 0, .slice none 0 0, .slice none 0 0, .slice none 0 0, .slice none 0 0, .bool false, .int .i64 (-1), .int .i64 (-1), .int .i64 0] 42) = W0 at *
  obtain ⟨gd, hgd0⟩ : ∃ g, g = w2.heap.size := ⟨_, rfl⟩
  obtain ⟨gl, hgl0⟩ : ∃ g, g = w4.heap.size := ⟨_, rfl⟩
  rw [← hgd0, ← hgl0] at St ⊢
  obtain ⟨P0, B0, hgd, hgl⟩ := St.out
  replace hgd := hid hgd
  replace hgl := hid hgl
  replace P0 := hid P0
  clear St hgd0 hgl0
  replace hops := hid hops
  replace hO := hid hO
  replace hB := hid hB
  go_loopw [5] (fun iv wr => ∃ i : Nat, i ≤ len0 ∧ i ≤ 100 ∧ iv = .int .i64 (i : Int) ∧ Hid (Play w.heap.size gd gl wr i) ∧ Below w.heap.size w wr) (fun iv _ => 100 - (intOf iv).toNat)
  case atStart => exact ⟨0, by omega, by omega, rfl, P0, B0⟩
  case round =>
    obtain ⟨i, hi, hi8, rfl, hP, B5⟩ := hrel
    clear P0 B0
    by_cases hlt2 : i < len0 ∧ i < 100
    · obtain ⟨hlt2, hlt3⟩ := hlt2
      have d1 : decide ((i : Int) < (len0 : Int)) = true := decide_eq_true (by omega)
      have d2 : decide ((i : Int) < 100) = true := decide_eq_true (by omega)
      have hio : i < ops.length := by rw [hops.out]; exact hlt2
      obtain ⟨ob, oo, ea, hcells⟩ := hO.out (by intro e; rw [e] at hio; simp at hio)
      subst ea
      obtain ⟨x0, x1, x2, x3, x4, x5, x6⟩ := hcells i hio
      obtain ⟨hbody, hcap, hblen, hn, ht⟩ := hB.out _ (List.getElem_mem hio)
      have hce := fun (v : Value) (k : Nat) (h : w.cell? ⟨ob, k, none⟩ = some v) => (B5.cell (p := ⟨ob, k, none⟩) (World.block_lt_of_cell? w _ h)).trans h
      replace x0 := hce _ _ x0
      replace x1 := hce _ _ x1
      replace x2 := hce _ _ x2
      replace x3 := hce _ _ x3
      replace x4 := hce _ _ x4
      replace x5 := hce _ _ x5
      replace x6 := hce _ _ x6
      have hlow : ops[i].body ≠ [] → ∀ ad, ops[i].a = some ad → ad.block < w.heap.size := fun hl ad ha => by
        obtain ⟨b9, o9, e9, hc9⟩ := hbody hl
        rw [e9] at ha
        cases ha
        exact World.block_lt_of_cell? w _ (hc9 0 (List.length_pos_iff.2 hl))
      replace hbody := hbody.below B5
      generalize ops[i].kind = kk at x0
      generalize ops[i].on = onn at x1
      obtain ⟨on, hon2, hand⟩ := and_one onn
      generalize ops[i].f = f at x2
      generalize ops[i].a = ba at x3 hbody hlow
      generalize ops[i].c = bc at x3 hcap
      generalize ops[i].n = n at x4 hn
      generalize ops[i].ec = ec at x5
      generalize ops[i].tn = tn at x6 ht
      generalize ops[i].body = body at x3 hbody hcap hblen hlow
      obtain ⟨len, hl⟩ : ∃ x, body.length = x := ⟨_, rfl⟩
      rw [hl] at x3 hblen
      replace hl := hid hl
      replace hn := hid (wf_le hn)
      replace ht := hid (wf_le ht)
      replace hbody := hid hbody
      replace hcap := hid hcap
      replace hlow := hid hlow
      clear hce hcells hO hB
      have bl := below_lit wr (.cells #[.int .i64 kk, .int .i64 onn, .int .i64 f, .slice ba len bc, .int .i64 n, .int .i64 ec, .int .i64 tn] 44)
      rcases (show on = 0 ∨ on = 1 by omega) with rfl | rfl
      · by_cases hbig : 2000 < len
        · have dc : decide ((len : Int) > 2000) = true := decide_eq_true (by omega)
          have dcap : 2000 ≤ bc := by have := hcap.out; have := hl.out; omega
          go_upto_region 10 with fail
          have h6 := heap_alloc_new wr (.cells #[.int .i64 kk, .int .i64 onn, .int .i64 f, .slice ba 2000 bc, .int .i64 n, .int .i64 ec, .int .i64 tn] 44)
          have B6 := below_lit wr (.cells #[.int .i64 kk, .int .i64 onn, .int .i64 f, .slice ba 2000 bc, .int .i64 n, .int .i64 ec, .int .i64 tn] 44)
          generalize hW6 : wr.alloc (.cells #[.int .i64 kk, .int .i64 onn, .int .i64 f, .slice ba 2000 bc, .int .i64 n, .int .i64 ec, .int .i64 tn] 44) = W6 at *
          have hat := hid ((hbody.out.below B6).take 2000)
          have hlen := hid (show (body.take 2000).length = 2000 by rw [List.length_take, hl.out]; omega)
          have hcp := hid (show (body.take 2000).length ≤ bc by rw [hlen.out]; omega)
          have hlw := hid (show body.take 2000 ≠ [] → ∀ ad, ba = some ad → ad.block < w.heap.size from fun h ad ha => hlow.out (fun e => h (by rw [e]; rfl)) ad ha)
          clear hW6 bl
          have y0 := row_cell h6 0 (.int .i64 kk) rfl
          replace h6 := hid (show W6.heap[wr.heap.size]? = some (.cells #[.int .i64 kk, .int .i64 onn, .int .i64 f, .slice ba 2000 bc, .int .i64 n, .int .i64 ec, .int .i64 tn] 44 (0, 0)) from h6)
          obtain ⟨g6, hg6⟩ : ∃ g6, g6 = wr.heap.size := ⟨_, rfl⟩
          rw [← hg6] at h6 y0 ⊢
          have B7 := hid (B5.trans (B6.mono B5.size))
          obtain ⟨p, q, x, z, y, u, d, e, V, R⟩ := (hP.out.below B6).at 0 (by decide)
          replace V := hid V
          replace R := hid R
          clear B6 hbody hcap hlow hP x0 x1 x2 x3 x4 x5 x6 hg6 B5
          by_cases hk8 : kk = 8
          · have d8 : decide (kk = 8) = true := decide_eq_true hk8
            go_upto_region 11 with fail
            refine Code.wp_mono nrm_of ?_
            refine plays_r11_0 V R (hid B7.out.size) (hid (Nat.le_trans V.out.f1 (by omega))) (hid ?_)
            intro d47 d48 d49 d50 d51 d52 d53 d54 d55 d56 d57 d58 d59 p' x' w' V2 K2 R2
            have hP2 := hid (PlayAt.back (on := 0) (by decide) ⟨_, _, _, _, _, _, _, _, V2.mono (Nat.le_succ i), R2⟩)
            have B8 := hid (B7.out.trans (copy_below hgd.out hgl.out B7.out.size K2))
            clear V R V2 R2 K2 h6 y0 hat hlen hcp hlw B7
            go_wp2_with fail
            go_roundw
            case rel => exact ⟨i + 1, by omega, by omega, by go_num, hP2, B8.out⟩
            case measure => simp [intOf]; omega
          · have d8 : decide (kk = 8) = false := decide_eq_false hk8
            go_upto_region 13 with fail
            refine Code.wp_mono nrm_of ?_
            refine plays_r13_0 V R h6 (hid rfl) (hid (kd_of V.out (by omega) B7.out.size hgd.out hgl.out kk onn f n ec tn ba 2000 bc (body.take 2000) hn.out ht.out hlen.out (by omega) hat.out hcp.out hlw.out)) (hid ?_)
            intro d60 d61 d62 d63 d64 d65 d66 d67 d68 d69 d70 d71 d72 x' y' w' S2 G2 D2 K2 R2
            have V2 := hid (V.out.step (Nat.le_trans (step_few _ _ _ _ _ _ _) (Nat.succ_le_succ V.out.f1)) S2 G2 D2 K2)
            have B8 := hid (B7.out.trans (step_below V.out hgl.out B7.out.size K2))
            replace R2 := hid R2
            clear V R S2 G2 D2 K2 h6 y0 hat hlen hcp hlw B7
            go_upto_region 14 with fail
            refine Code.wp_mono nrm_of ?_
            refine plays_r14_0 V2 R2 (hid ?_)
            intro d73 d74 d75 d76 d77 d78 d79 d80 d81 d82 d83 d84 d85 w2 hb2
            have hP2 := hid (PlayAt.back (on := 0) (by decide) ⟨_, _, _, _, _, _, _, _, V2.out.below hb2, R2.out.below hb2⟩)
            have B9 := hid (B8.out.trans (hb2.mono B8.out.size))
            clear V2 R2 B8 hb2
            go_wp2_with fail
            go_roundw
            case rel => exact ⟨i + 1, by omega, by omega, by go_num, hP2, B9.out⟩
            case measure => simp [intOf]; omega
        · have dc : decide ((len : Int) > 2000) = false := decide_eq_false (by omega)
          go_upto_region 10 with fail
          have h6 := heap_alloc_new wr (.cells #[.int .i64 kk, .int .i64 onn, .int .i64 f, .slice ba len bc, .int .i64 n, .int .i64 ec, .int .i64 tn] 44)
          have B6 := bl
          generalize hW6 : wr.alloc (.cells #[.int .i64 kk, .int .i64 onn, .int .i64 f, .slice ba len bc, .int .i64 n, .int .i64 ec, .int .i64 tn] 44) = W6 at *
          have hat := hid (hbody.out.below B6)
          have hlen := hl
          have hcp := hid hcap.out
          have hlw := hid hlow.out
          clear hW6 bl
          have y0 := row_cell h6 0 (.int .i64 kk) rfl
          replace h6 := hid (show W6.heap[wr.heap.size]? = some (.cells #[.int .i64 kk, .int .i64 onn, .int .i64 f, .slice ba len bc, .int .i64 n, .int .i64 ec, .int .i64 tn] 44 (0, 0)) from h6)
          obtain ⟨g6, hg6⟩ : ∃ g6, g6 = wr.heap.size := ⟨_, rfl⟩
          rw [← hg6] at h6 y0 ⊢
          have B7 := hid (B5.trans (B6.mono B5.size))
          obtain ⟨p, q, x, z, y, u, d, e, V, R⟩ := (hP.out.below B6).at 0 (by decide)
          replace V := hid V
          replace R := hid R
          clear B6 hbody hcap hlow hP x0 x1 x2 x3 x4 x5 x6 hg6 B5
          by_cases hk8 : kk = 8
          · have d8 : decide (kk = 8) = true := decide_eq_true hk8
            go_upto_region 11 with fail
            refine Code.wp_mono nrm_of ?_
            refine plays_r11_0 V R (hid B7.out.size) (hid (Nat.le_trans V.out.f1 (by omega))) (hid ?_)
            intro d47 d48 d49 d50 d51 d52 d53 d54 d55 d56 d57 d58 d59 p' x' w' V2 K2 R2
            have hP2 := hid (PlayAt.back (on := 0) (by decide) ⟨_, _, _, _, _, _, _, _, V2.mono (Nat.le_succ i), R2⟩)
            have B8 := hid (B7.out.trans (copy_below hgd.out hgl.out B7.out.size K2))
            clear V R V2 R2 K2 h6 y0 hat hlen hcp hlw B7
            go_wp2_with fail
            go_roundw
            case rel => exact ⟨i + 1, by omega, by omega, by go_num, hP2, B8.out⟩
            case measure => simp [intOf]; omega
          · have d8 : decide (kk = 8) = false := decide_eq_false hk8
            go_upto_region 13 with fail
            refine Code.wp_mono nrm_of ?_
            refine plays_r13_0 V R h6 (hid rfl) (hid (kd_of V.out (by omega) B7.out.size hgd.out hgl.out kk onn f n ec tn ba len bc body hn.out ht.out hlen.out (by omega) hat.out hcp.out hlw.out)) (hid ?_)
            intro d60 d61 d62 d63 d64 d65 d66 d67 d68 d69 d70 d71 d72 x' y' w' S2 G2 D2 K2 R2
            have V2 := hid (V.out.step (Nat.le_trans (step_few _ _ _ _ _ _ _) (Nat.succ_le_succ V.out.f1)) S2 G2 D2 K2)
            have B8 := hid (B7.out.trans (step_below V.out hgl.out B7.out.size K2))
            replace R2 := hid R2
            clear V R S2 G2 D2 K2 h6 y0 hat hlen hcp hlw B7
            go_upto_region 14 with fail
            refine Code.wp_mono nrm_of ?_
            refine plays_r14_0 V2 R2 (hid ?_)
            intro d73 d74 d75 d76 d77 d78 d79 d80 d81 d82 d83 d84 d85 w2 hb2
            have hP2 := hid (PlayAt.back (on := 0) (by decide) ⟨_, _, _, _, _, _, _, _, V2.out.below hb2, R2.out.below hb2⟩)
            have B9 := hid (B8.out.trans (hb2.mono B8.out.size))
            clear V2 R2 B8 hb2
            go_wp2_with fail
            go_roundw
            case rel => exact ⟨i + 1, by omega, by omega, by go_num, hP2, B9.out⟩
            case measure => simp [intOf]; omega
      · by_cases hbig : 2000 < len
        · have dc : decide ((len : Int) > 2000) = true := decide_eq_true (by omega)
          have dcap : 2000 ≤ bc := by have := hcap.out; have := hl.out; omega
          go_upto_region 10 with fail
          have h6 := heap_alloc_new wr (.cells #[.int .i64 kk, .int .i64 onn, .int .i64 f, .slice ba 2000 bc, .int .i64 n, .int .i64 ec, .int .i64 tn] 44)
          have B6 := below_lit wr (.cells #[.int .i64 kk, .int .i64 onn, .int .i64 f, .slice ba 2000 bc, .int .i64 n, .int .i64 ec, .int .i64 tn] 44)
          generalize hW6 : wr.alloc (.cells #[.int .i64 kk, .int .i64 onn, .int .i64 f, .slice ba 2000 bc, .int .i64 n, .int .i64 ec, .int .i64 tn] 44) = W6 at *
          have hat := hid ((hbody.out.below B6).take 2000)
          have hlen := hid (show (body.take 2000).length = 2000 by rw [List.length_take, hl.out]; omega)
          have hcp := hid (show (body.take 2000).length ≤ bc by rw [hlen.out]; omega)
          have hlw := hid (show body.take 2000 ≠ [] → ∀ ad, ba = some ad → ad.block < w.heap.size from fun h ad ha => hlow.out (fun e => h (by rw [e]; rfl)) ad ha)
          clear hW6 bl
          have y0 := row_cell h6 0 (.int .i64 kk) rfl
          replace h6 := hid (show W6.heap[wr.heap.size]? = some (.cells #[.int .i64 kk, .int .i64 onn, .int .i64 f, .slice ba 2000 bc, .int .i64 n, .int .i64 ec, .int .i64 tn] 44 (0, 0)) from h6)
          obtain ⟨g6, hg6⟩ : ∃ g6, g6 = wr.heap.size := ⟨_, rfl⟩
          rw [← hg6] at h6 y0 ⊢
          have B7 := hid (B5.trans (B6.mono B5.size))
          obtain ⟨p, q, x, z, y, u, d, e, V, R⟩ := (hP.out.below B6).at 1 (by decide)
          replace V := hid V
          replace R := hid R
          clear B6 hbody hcap hlow hP x0 x1 x2 x3 x4 x5 x6 hg6 B5
          by_cases hk8 : kk = 8
          · have d8 : decide (kk = 8) = true := decide_eq_true hk8
            go_upto_region 11 with fail
            refine Code.wp_mono nrm_of ?_
            refine plays_r11_1 V R (hid B7.out.size) (hid (Nat.le_trans V.out.f1 (by omega))) (hid ?_)
            intro d47 d48 d49 d50 d51 d52 d53 d54 d55 d56 d57 d58 d59 p' x' w' V2 K2 R2
            have hP2 := hid (PlayAt.back (on := 1) (by decide) ⟨_, _, _, _, _, _, _, _, V2.mono (Nat.le_succ i), R2⟩)
            have B8 := hid (B7.out.trans (copy_below hgd.out hgl.out B7.out.size K2))
            clear V R V2 R2 K2 h6 y0 hat hlen hcp hlw B7
            go_wp2_with fail
            go_roundw
            case rel => exact ⟨i + 1, by omega, by omega, by go_num, hP2, B8.out⟩
            case measure => simp [intOf]; omega
          · have d8 : decide (kk = 8) = false := decide_eq_false hk8
            go_upto_region 13 with fail
            refine Code.wp_mono nrm_of ?_
            refine plays_r13_1 V R h6 (hid rfl) (hid (kd_of V.out (by omega) B7.out.size hgd.out hgl.out kk onn f n ec tn ba 2000 bc (body.take 2000) hn.out ht.out hlen.out (by omega) hat.out hcp.out hlw.out)) (hid ?_)
            intro d60 d61 d62 d63 d64 d65 d66 d67 d68 d69 d70 d71 d72 x' y' w' S2 G2 D2 K2 R2
            have V2 := hid (V.out.step (Nat.le_trans (step_few _ _ _ _ _ _ _) (Nat.succ_le_succ V.out.f1)) S2 G2 D2 K2)
            have B8 := hid (B7.out.trans (step_below V.out hgl.out B7.out.size K2))
            replace R2 := hid R2
            clear V R S2 G2 D2 K2 h6 y0 hat hlen hcp hlw B7
            go_upto_region 14 with fail
            refine Code.wp_mono nrm_of ?_
            refine plays_r14_1 V2 R2 (hid ?_)
            intro d73 d74 d75 d76 d77 d78 d79 d80 d81 d82 d83 d84 d85 w2 hb2
            have hP2 := hid (PlayAt.back (on := 1) (by decide) ⟨_, _, _, _, _, _, _, _, V2.out.below hb2, R2.out.below hb2⟩)
            have B9 := hid (B8.out.trans (hb2.mono B8.out.size))
            clear V2 R2 B8 hb2
            go_wp2_with fail
            go_roundw
            case rel => exact ⟨i + 1, by omega, by omega, by go_num, hP2, B9.out⟩
            case measure => simp [intOf]; omega
        · have dc : decide ((len : Int) > 2000) = false := decide_eq_false (by omega)
          go_upto_region 10 with fail
          have h6 := heap_alloc_new wr (.cells #[.int .i64 kk, .int .i64 onn, .int .i64 f, .slice ba len bc, .int .i64 n, .int .i64 ec, .int .i64 tn] 44)
          have B6 := bl
          generalize hW6 : wr.alloc (.cells #[.int .i64 kk, .int .i64 onn, .int .i64 f, .slice ba len bc, .int .i64 n, .int .i64 ec, .int .i64 tn] 44) = W6 at *
          have hat := hid (hbody.out.below B6)
          have hlen := hl
          have hcp := hid hcap.out
          have hlw := hid hlow.out
          clear hW6 bl
          have y0 := row_cell h6 0 (.int .i64 kk) rfl
          replace h6 := hid (show W6.heap[wr.heap.size]? = some (.cells #[.int .i64 kk, .int .i64 onn, .int .i64 f, .slice ba len bc, .int .i64 n, .int .i64 ec, .int .i64 tn] 44 (0, 0)) from h6)
          obtain ⟨g6, hg6⟩ : ∃ g6, g6 = wr.heap.size := ⟨_, rfl⟩
          rw [← hg6] at h6 y0 ⊢
          have B7 := hid (B5.trans (B6.mono B5.size))
          obtain ⟨p, q, x, z, y, u, d, e, V, R⟩ := (hP.out.below B6).at 1 (by decide)
          replace V := hid V
          replace R := hid R
          clear B6 hbody hcap hlow hP x0 x1 x2 x3 x4 x5 x6 hg6 B5
          by_cases hk8 : kk = 8
          · have d8 : decide (kk = 8) = true := decide_eq_true hk8
            go_upto_region 11 with fail
            refine Code.wp_mono nrm_of ?_
            refine plays_r11_1 V R (hid B7.out.size) (hid (Nat.le_trans V.out.f1 (by omega))) (hid ?_)
            intro d47 d48 d49 d50 d51 d52 d53 d54 d55 d56 d57 d58 d59 p' x' w' V2 K2 R2
            have hP2 := hid (PlayAt.back (on := 1) (by decide) ⟨_, _, _, _, _, _, _, _, V2.mono (Nat.le_succ i), R2⟩)
            have B8 := hid (B7.out.trans (copy_below hgd.out hgl.out B7.out.size K2))
            clear V R V2 R2 K2 h6 y0 hat hlen hcp hlw B7
            go_wp2_with fail
            go_roundw
            case rel => exact ⟨i + 1, by omega, by omega, by go_num, hP2, B8.out⟩
            case measure => simp [intOf]; omega
          · have d8 : decide (kk = 8) = false := decide_eq_false hk8
            go_upto_region 13 with fail
            refine Code.wp_mono nrm_of ?_
            refine plays_r13_1 V R h6 (hid rfl) (hid (kd_of V.out (by omega) B7.out.size hgd.out hgl.out kk onn f n ec tn ba len bc body hn.out ht.out hlen.out (by omega) hat.out hcp.out hlw.out)) (hid ?_)
            intro d60 d61 d62 d63 d64 d65 d66 d67 d68 d69 d70 d71 d72 x' y' w' S2 G2 D2 K2 R2
            have V2 := hid (V.out.step (Nat.le_trans (step_few _ _ _ _ _ _ _) (Nat.succ_le_succ V.out.f1)) S2 G2 D2 K2)
            have B8 := hid (B7.out.trans (step_below V.out hgl.out B7.out.size K2))
            replace R2 := hid R2
            clear V R S2 G2 D2 K2 h6 y0 hat hlen hcp hlw B7
            go_upto_region 14 with fail
            refine Code.wp_mono nrm_of ?_
            refine plays_r14_1 V2 R2 (hid ?_)
            intro d73 d74 d75 d76 d77 d78 d79 d80 d81 d82 d83 d84 d85 w2 hb2
            have hP2 := hid (PlayAt.back (on := 1) (by decide) ⟨_, _, _, _, _, _, _, _, V2.out.below hb2, R2.out.below hb2⟩)
            have B9 := hid (B8.out.trans (hb2.mono B8.out.size))
            clear V2 R2 B8 hb2
            go_wp2_with fail
            go_roundw
            case rel => exact ⟨i + 1, by omega, by omega, by go_num, hP2, B9.out⟩
            case measure => simp [intOf]; omega
    · by_cases hx1 : i < len0
      · have d1 : decide ((i : Int) < (len0 : Int)) = true := decide_eq_true (by omega)
        have d2 : decide ((i : Int) < 100) = false := decide_eq_false (by omega)
        obtain ⟨p, q, x, z, y, u, d, e, V, R⟩ := hP.out
        replace V := hid V
        replace R := hid R
        clear hP hO hB hops
        generalize hwF : wr = w5 at *
        clear hwF
        go_wp2_with fail
        go_loopw [9] (fun kv wa => ∃ k : Nat, k ≤ 2 ∧ kv = .int .i64 (k : Int) ∧ Below w5.heap.size w5 wa) (fun kv _ => 2 - (intOf kv).toNat)
        case atStart => exact ⟨0, by omega, rfl, Below.refl _ _⟩
        case round =>
          obtain ⟨k, hk2, rfl, Bk⟩ := hrel
          by_cases hk : k < 2
          · have dk : decide ((k : Int) < 2) = true := decide_eq_true (by omega)
            go_wp2_with fail
            generalize hwF : wr = wk at *
            clear hwF
            go_loopw [10] (fun fv wa => ∃ f : Nat, f ≤ 3 ∧ fv = .int .i64 (f : Int) ∧ Below w5.heap.size w5 wa) (fun fv _ => 3 - (intOf fv).toNat)
            case atStart => exact ⟨0, by omega, rfl, Bk⟩
            case round =>
              obtain ⟨f, hf3, rfl, Bf⟩ := hrel
              by_cases hf : f < 3
              · have df : decide ((f : Int) < 3) = true := decide_eq_true (by omega)
                rcases (show k = 0 ∨ k = 1 by omega) with rfl | rfl
                · rcases (show f = 0 ∨ f = 1 ∨ f = 2 by omega) with rfl | rfl | rfl
                  · have c0 := stayb Bf R.out.d1
                    obtain ⟨fb, hfb⟩ : ∃ l, l = d.dur 0 := ⟨_, rfl⟩
                    obtain ⟨fn, hfn⟩ : ∃ n, fb.length = n := ⟨_, rfl⟩
                    have c1 : w5.cell? ⟨gl, 0, none⟩ = some (.slice (y.fa 0) fn (y.fc 0)) := by rw [← hfn, hfb]; exact R.out.l1 0 (y.fv d 0) rfl
                    have a1 : At w5 (y.fa 0) fb := by rw [hfb]; exact (V.out.r1.file 0 (by decide)).at_
                    have q1 := hid (durable_sole w.heap.size p x d 0 0 fb fn wr (V.out.s1.below Bf) rfl (by rw [hfb]; rfl) hfn)
                    have q2 := hid (fun (wb : World) (hb : Below wr.heap.size wr wb) (sb : Option Addr) (sc : Nat) (ho : Own wb wr.heap.size (.slice sb fn sc) fb) => same_any sb (y.fa 0) fn fn sc (y.fc 0) fb fb wb hfn hfn ho.at (a1.below (bnext Bf hb)) rfl)
                    have c1q := hid (fun (wb : World) (hb : Below wr.heap.size wr wb) => stayb (bnext Bf hb) c1)
                    clear c1 a1
                    generalize y.fa 0 = fa at *
                    generalize y.fc 0 = fc at *
                    replace Bf := hid Bf
                    clear hfb hfn
                    go_wp2_with fail
                    refine q1.out.mono ?_
                    rintro e9 wb ⟨sb, sc, rfl, ho, hb⟩
                    have c1 := c1q.out wb hb
                    have q3 := hid (q2.out wb hb sb sc ho)
                    have Bg := hid (bnext Bf.out hb)
                    clear ho hb c0 q1 q2 c1q
                    go_wp2_with fail
                    refine q3.out.mono ?_
                    rintro e9 wc ⟨rfl, rfl⟩
                    go_wp2_with fail
                    go_roundw
                    case rel => exact ⟨_, _, _, _, _, _, _, _, _, _, _, _, _, _, _, _, _, _, _, _, _, _, _, _, _, ⟨1, by omega, by go_num, Bg.out⟩, rfl⟩
                    case measure => simp [intOf]
                  · have c0 := stayb Bf R.out.d1
                    obtain ⟨fb, hfb⟩ : ∃ l, l = d.dur 1 := ⟨_, rfl⟩
                    obtain ⟨fn, hfn⟩ : ∃ n, fb.length = n := ⟨_, rfl⟩
                    have c1 : w5.cell? ⟨gl, 1, none⟩ = some (.slice (y.fa 1) fn (y.fc 1)) := by rw [← hfn, hfb]; exact R.out.l1 1 (y.fv d 1) rfl
                    have a1 : At w5 (y.fa 1) fb := by rw [hfb]; exact (V.out.r1.file 1 (by decide)).at_
                    have q1 := hid (durable_sole w.heap.size p x d 1 0 fb fn wr (V.out.s1.below Bf) rfl (by rw [hfb]; rfl) hfn)
                    have q2 := hid (fun (wb : World) (hb : Below wr.heap.size wr wb) (sb : Option Addr) (sc : Nat) (ho : Own wb wr.heap.size (.slice sb fn sc) fb) => same_any sb (y.fa 1) fn fn sc (y.fc 1) fb fb wb hfn hfn ho.at (a1.below (bnext Bf hb)) rfl)
                    have c1q := hid (fun (wb : World) (hb : Below wr.heap.size wr wb) => stayb (bnext Bf hb) c1)
                    clear c1 a1
                    generalize y.fa 1 = fa at *
                    generalize y.fc 1 = fc at *
                    replace Bf := hid Bf
                    clear hfb hfn
                    go_wp2_with fail
                    refine q1.out.mono ?_
                    rintro e9 wb ⟨sb, sc, rfl, ho, hb⟩
                    have c1 := c1q.out wb hb
                    have q3 := hid (q2.out wb hb sb sc ho)
                    have Bg := hid (bnext Bf.out hb)
                    clear ho hb c0 q1 q2 c1q
                    go_wp2_with fail
                    refine q3.out.mono ?_
                    rintro e9 wc ⟨rfl, rfl⟩
                    go_wp2_with fail
                    go_roundw
                    case rel => exact ⟨_, _, _, _, _, _, _, _, _, _, _, _, _, _, _, _, _, _, _, _, _, _, _, _, _, ⟨2, by omega, by go_num, Bg.out⟩, rfl⟩
                    case measure => simp [intOf]
                  · have c0 := stayb Bf R.out.d1
                    obtain ⟨fb, hfb⟩ : ∃ l, l = d.dur 2 := ⟨_, rfl⟩
                    obtain ⟨fn, hfn⟩ : ∃ n, fb.length = n := ⟨_, rfl⟩
                    have c1 : w5.cell? ⟨gl, 2, none⟩ = some (.slice (y.fa 2) fn (y.fc 2)) := by rw [← hfn, hfb]; exact R.out.l1 2 (y.fv d 2) rfl
                    have a1 : At w5 (y.fa 2) fb := by rw [hfb]; exact (V.out.r1.file 2 (by decide)).at_
                    have q1 := hid (durable_sole w.heap.size p x d 2 0 fb fn wr (V.out.s1.below Bf) rfl (by rw [hfb]; rfl) hfn)
                    have q2 := hid (fun (wb : World) (hb : Below wr.heap.size wr wb) (sb : Option Addr) (sc : Nat) (ho : Own wb wr.heap.size (.slice sb fn sc) fb) => same_any sb (y.fa 2) fn fn sc (y.fc 2) fb fb wb hfn hfn ho.at (a1.below (bnext Bf hb)) rfl)
                    have c1q := hid (fun (wb : World) (hb : Below wr.heap.size wr wb) => stayb (bnext Bf hb) c1)
                    clear c1 a1
                    generalize y.fa 2 = fa at *
                    generalize y.fc 2 = fc at *
                    replace Bf := hid Bf
                    clear hfb hfn
                    go_wp2_with fail
                    refine q1.out.mono ?_
                    rintro e9 wb ⟨sb, sc, rfl, ho, hb⟩
                    have c1 := c1q.out wb hb
                    have q3 := hid (q2.out wb hb sb sc ho)
                    have Bg := hid (bnext Bf.out hb)
                    clear ho hb c0 q1 q2 c1q
                    go_wp2_with fail
                    refine q3.out.mono ?_
                    rintro e9 wc ⟨rfl, rfl⟩
                    go_wp2_with fail
                    go_roundw
                    case rel => exact ⟨_, _, _, _, _, _, _, _, _, _, _, _, _, _, _, _, _, _, _, _, _, _, _, _, _, ⟨3, by omega, by go_num, Bg.out⟩, rfl⟩
                    case measure => simp [intOf]
                · rcases (show f = 0 ∨ f = 1 ∨ f = 2 by omega) with rfl | rfl | rfl
                  · have c0 := stayb Bf R.out.d2
                    obtain ⟨fb, hfb⟩ : ∃ l, l = e.dur 0 := ⟨_, rfl⟩
                    obtain ⟨fn, hfn⟩ : ∃ n, fb.length = n := ⟨_, rfl⟩
                    have c1 : w5.cell? ⟨gl, 8, none⟩ = some (.slice (u.fa 0) fn (u.fc 0)) := by rw [← hfn, hfb]; exact R.out.l2 0 (u.fv e 0) rfl
                    have a1 : At w5 (u.fa 0) fb := by rw [hfb]; exact (V.out.r2.file 0 (by decide)).at_
                    have q1 := hid (durable_sole w.heap.size q z e 0 0 fb fn wr (V.out.s2.below Bf) rfl (by rw [hfb]; rfl) hfn)
                    have q2 := hid (fun (wb : World) (hb : Below wr.heap.size wr wb) (sb : Option Addr) (sc : Nat) (ho : Own wb wr.heap.size (.slice sb fn sc) fb) => same_any sb (u.fa 0) fn fn sc (u.fc 0) fb fb wb hfn hfn ho.at (a1.below (bnext Bf hb)) rfl)
                    have c1q := hid (fun (wb : World) (hb : Below wr.heap.size wr wb) => stayb (bnext Bf hb) c1)
                    clear c1 a1
                    generalize u.fa 0 = fa at *
                    generalize u.fc 0 = fc at *
                    replace Bf := hid Bf
                    clear hfb hfn
                    go_wp2_with fail
                    refine q1.out.mono ?_
                    rintro e9 wb ⟨sb, sc, rfl, ho, hb⟩
                    have c1 := c1q.out wb hb
                    have q3 := hid (q2.out wb hb sb sc ho)
                    have Bg := hid (bnext Bf.out hb)
                    clear ho hb c0 q1 q2 c1q
                    go_wp2_with fail
                    refine q3.out.mono ?_
                    rintro e9 wc ⟨rfl, rfl⟩
                    go_wp2_with fail
                    go_roundw
                    case rel => exact ⟨_, _, _, _, _, _, _, _, _, _, _, _, _, _, _, _, _, _, _, _, _, _, _, _, _, ⟨1, by omega, by go_num, Bg.out⟩, rfl⟩
                    case measure => simp [intOf]
                  · have c0 := stayb Bf R.out.d2
                    obtain ⟨fb, hfb⟩ : ∃ l, l = e.dur 1 := ⟨_, rfl⟩
                    obtain ⟨fn, hfn⟩ : ∃ n, fb.length = n := ⟨_, rfl⟩
                    have c1 : w5.cell? ⟨gl, 9, none⟩ = some (.slice (u.fa 1) fn (u.fc 1)) := by rw [← hfn, hfb]; exact R.out.l2 1 (u.fv e 1) rfl
                    have a1 : At w5 (u.fa 1) fb := by rw [hfb]; exact (V.out.r2.file 1 (by decide)).at_
                    have q1 := hid (durable_sole w.heap.size q z e 1 0 fb fn wr (V.out.s2.below Bf) rfl (by rw [hfb]; rfl) hfn)
                    have q2 := hid (fun (wb : World) (hb : Below wr.heap.size wr wb) (sb : Option Addr) (sc : Nat) (ho : Own wb wr.heap.size (.slice sb fn sc) fb) => same_any sb (u.fa 1) fn fn sc (u.fc 1) fb fb wb hfn hfn ho.at (a1.below (bnext Bf hb)) rfl)
                    have c1q := hid (fun (wb : World) (hb : Below wr.heap.size wr wb) => stayb (bnext Bf hb) c1)
                    clear c1 a1
                    generalize u.fa 1 = fa at *
                    generalize u.fc 1 = fc at *
                    replace Bf := hid Bf
                    clear hfb hfn
                    go_wp2_with fail
                    refine q1.out.mono ?_
                    rintro e9 wb ⟨sb, sc, rfl, ho, hb⟩
                    have c1 := c1q.out wb hb
                    have q3 := hid (q2.out wb hb sb sc ho)
                    have Bg := hid (bnext Bf.out hb)
                    clear ho hb c0 q1 q2 c1q
                    go_wp2_with fail
                    refine q3.out.mono ?_
                    rintro e9 wc ⟨rfl, rfl⟩
                    go_wp2_with fail
                    go_roundw
                    case rel => exact ⟨_, _, _, _, _, _, _, _, _, _, _, _, _, _, _, _, _, _, _, _, _, _, _, _, _, ⟨2, by omega, by go_num, Bg.out⟩, rfl⟩
                    case measure => simp [intOf]
                  · have c0 := stayb Bf R.out.d2
                    obtain ⟨fb, hfb⟩ : ∃ l, l = e.dur 2 := ⟨_, rfl⟩
                    obtain ⟨fn, hfn⟩ : ∃ n, fb.length = n := ⟨_, rfl⟩
                    have c1 : w5.cell? ⟨gl, 10, none⟩ = some (.slice (u.fa 2) fn (u.fc 2)) := by rw [← hfn, hfb]; exact R.out.l2 2 (u.fv e 2) rfl
                    have a1 : At w5 (u.fa 2) fb := by rw [hfb]; exact (V.out.r2.file 2 (by decide)).at_
                    have q1 := hid (durable_sole w.heap.size q z e 2 0 fb fn wr (V.out.s2.below Bf) rfl (by rw [hfb]; rfl) hfn)
                    have q2 := hid (fun (wb : World) (hb : Below wr.heap.size wr wb) (sb : Option Addr) (sc : Nat) (ho : Own wb wr.heap.size (.slice sb fn sc) fb) => same_any sb (u.fa 2) fn fn sc (u.fc 2) fb fb wb hfn hfn ho.at (a1.below (bnext Bf hb)) rfl)
                    have c1q := hid (fun (wb : World) (hb : Below wr.heap.size wr wb) => stayb (bnext Bf hb) c1)
                    clear c1 a1
                    generalize u.fa 2 = fa at *
                    generalize u.fc 2 = fc at *
                    replace Bf := hid Bf
                    clear hfb hfn
                    go_wp2_with fail
                    refine q1.out.mono ?_
                    rintro e9 wb ⟨sb, sc, rfl, ho, hb⟩
                    have c1 := c1q.out wb hb
                    have q3 := hid (q2.out wb hb sb sc ho)
                    have Bg := hid (bnext Bf.out hb)
                    clear ho hb c0 q1 q2 c1q
                    go_wp2_with fail
                    refine q3.out.mono ?_
                    rintro e9 wc ⟨rfl, rfl⟩
                    go_wp2_with fail
                    go_roundw
                    case rel => exact ⟨_, _, _, _, _, _, _, _, _, _, _, _, _, _, _, _, _, _, _, _, _, _, _, _, _, ⟨3, by omega, by go_num, Bg.out⟩, rfl⟩
                    case measure => simp [intOf]
              · have df : decide ((f : Int) < 3) = false := decide_eq_false (by omega)
                go_wp2_with fail
                go_roundw
                case rel => exact ⟨k + 1, by omega, by go_num, Bf⟩
                case measure => simp [intOf]; omega
          · have dk : decide ((k : Int) < 2) = false := decide_eq_false (by omega)
            have q0 := hid (awake_any wr)
            go_wp2_with fail
            refine q0.out.mono ?_
            rintro e9 wE ⟨rfl, hbE⟩
            go_wp2_with fail
            go_ret
            exact ⟨rfl, B5.trans ((bnext Bk hbE).mono B5.size)⟩
      · have d1 : decide ((i : Int) < (len0 : Int)) = false := decide_eq_false (by omega)
        obtain ⟨p, q, x, z, y, u, d, e, V, R⟩ := hP.out
        replace V := hid V
        replace R := hid R
        clear hP hO hB hops
        generalize hwF : wr = w5 at *
        clear hwF
        go_wp2_with fail
        go_loopw [9] (fun kv wa => ∃ k : Nat, k ≤ 2 ∧ kv = .int .i64 (k : Int) ∧ Below w5.heap.size w5 wa) (fun kv _ => 2 - (intOf kv).toNat)
        case atStart => exact ⟨0, by omega, rfl, Below.refl _ _⟩
        case round =>
          obtain ⟨k, hk2, rfl, Bk⟩ := hrel
          by_cases hk : k < 2
          · have dk : decide ((k : Int) < 2) = true := decide_eq_true (by omega)
            go_wp2_with fail
            generalize hwF : wr = wk at *
            clear hwF
            go_loopw [10] (fun fv wa => ∃ f : Nat, f ≤ 3 ∧ fv = .int .i64 (f : Int) ∧ Below w5.heap.size w5 wa) (fun fv _ => 3 - (intOf fv).toNat)
            case atStart => exact ⟨0, by omega, rfl, Bk⟩
            case round =>
              obtain ⟨f, hf3, rfl, Bf⟩ := hrel
              by_cases hf : f < 3
              · have df : decide ((f : Int) < 3) = true := decide_eq_true (by omega)
                rcases (show k = 0 ∨ k = 1 by omega) with rfl | rfl
                · rcases (show f = 0 ∨ f = 1 ∨ f = 2 by omega) with rfl | rfl | rfl
                  · have c0 := stayb Bf R.out.d1
                    obtain ⟨fb, hfb⟩ : ∃ l, l = d.dur 0 := ⟨_, rfl⟩
                    obtain ⟨fn, hfn⟩ : ∃ n, fb.length = n := ⟨_, rfl⟩
                    have c1 : w5.cell? ⟨gl, 0, none⟩ = some (.slice (y.fa 0) fn (y.fc 0)) := by rw [← hfn, hfb]; exact R.out.l1 0 (y.fv d 0) rfl
                    have a1 : At w5 (y.fa 0) fb := by rw [hfb]; exact (V.out.r1.file 0 (by decide)).at_
                    have q1 := hid (durable_sole w.heap.size p x d 0 0 fb fn wr (V.out.s1.below Bf) rfl (by rw [hfb]; rfl) hfn)
                    have q2 := hid (fun (wb : World) (hb : Below wr.heap.size wr wb) (sb : Option Addr) (sc : Nat) (ho : Own wb wr.heap.size (.slice sb fn sc) fb) => same_any sb (y.fa 0) fn fn sc (y.fc 0) fb fb wb hfn hfn ho.at (a1.below (bnext Bf hb)) rfl)
                    have c1q := hid (fun (wb : World) (hb : Below wr.heap.size wr wb) => stayb (bnext Bf hb) c1)
                    clear c1 a1
                    generalize y.fa 0 = fa at *
                    generalize y.fc 0 = fc at *
                    replace Bf := hid Bf
                    clear hfb hfn
                    go_wp2_with fail
                    refine q1.out.mono ?_
                    rintro e9 wb ⟨sb, sc, rfl, ho, hb⟩
                    have c1 := c1q.out wb hb
                    have q3 := hid (q2.out wb hb sb sc ho)
                    have Bg := hid (bnext Bf.out hb)
                    clear ho hb c0 q1 q2 c1q
                    go_wp2_with fail
                    refine q3.out.mono ?_
                    rintro e9 wc ⟨rfl, rfl⟩
                    go_wp2_with fail
                    go_roundw
                    case rel => exact ⟨_, _, _, _, _, _, _, _, _, _, _, _, _, _, _, _, _, _, _, _, _, _, _, _, _, ⟨1, by omega, by go_num, Bg.out⟩, rfl⟩
                    case measure => simp [intOf]
                  · have c0 := stayb Bf R.out.d1
                    obtain ⟨fb, hfb⟩ : ∃ l, l = d.dur 1 := ⟨_, rfl⟩
                    obtain ⟨fn, hfn⟩ : ∃ n, fb.length = n := ⟨_, rfl⟩
                    have c1 : w5.cell? ⟨gl, 1, none⟩ = some (.slice (y.fa 1) fn (y.fc 1)) := by rw [← hfn, hfb]; exact R.out.l1 1 (y.fv d 1) rfl
                    have a1 : At w5 (y.fa 1) fb := by rw [hfb]; exact (V.out.r1.file 1 (by decide)).at_
                    have q1 := hid (durable_sole w.heap.size p x d 1 0 fb fn wr (V.out.s1.below Bf) rfl (by rw [hfb]; rfl) hfn)
                    have q2 := hid (fun (wb : World) (hb : Below wr.heap.size wr wb) (sb : Option Addr) (sc : Nat) (ho : Own wb wr.heap.size (.slice sb fn sc) fb) => same_any sb (y.fa 1) fn fn sc (y.fc 1) fb fb wb hfn hfn ho.at (a1.below (bnext Bf hb)) rfl)
                    have c1q := hid (fun (wb : World) (hb : Below wr.heap.size wr wb) => stayb (bnext Bf hb) c1)
                    clear c1 a1
                    generalize y.fa 1 = fa at *
                    generalize y.fc 1 = fc at *
                    replace Bf := hid Bf
                    clear hfb hfn
                    go_wp2_with fail
                    refine q1.out.mono ?_
                    rintro e9 wb ⟨sb, sc, rfl, ho, hb⟩
                    have c1 := c1q.out wb hb
                    have q3 := hid (q2.out wb hb sb sc ho)
                    have Bg := hid (bnext Bf.out hb)
                    clear ho hb c0 q1 q2 c1q
                    go_wp2_with fail
                    refine q3.out.mono ?_
                    rintro e9 wc ⟨rfl, rfl⟩
                    go_wp2_with fail
                    go_roundw
                    case rel => exact ⟨_, _, _, _, _, _, _, _, _, _, _, _, _, _, _, _, _, _, _, _, _, _, _, _, _, ⟨2, by omega, by go_num, Bg.out⟩, rfl⟩
                    case measure => simp [intOf]
                  · have c0 := stayb Bf R.out.d1
                    obtain ⟨fb, hfb⟩ : ∃ l, l = d.dur 2 := ⟨_, rfl⟩
                    obtain ⟨fn, hfn⟩ : ∃ n, fb.length = n := ⟨_, rfl⟩
                    have c1 : w5.cell? ⟨gl, 2, none⟩ = some (.slice (y.fa 2) fn (y.fc 2)) := by rw [← hfn, hfb]; exact R.out.l1 2 (y.fv d 2) rfl
                    have a1 : At w5 (y.fa 2) fb := by rw [hfb]; exact (V.out.r1.file 2 (by decide)).at_
                    have q1 := hid (durable_sole w.heap.size p x d 2 0 fb fn wr (V.out.s1.below Bf) rfl (by rw [hfb]; rfl) hfn)
                    have q2 := hid (fun (wb : World) (hb : Below wr.heap.size wr wb) (sb : Option Addr) (sc : Nat) (ho : Own wb wr.heap.size (.slice sb fn sc) fb) => same_any sb (y.fa 2) fn fn sc (y.fc 2) fb fb wb hfn hfn ho.at (a1.below (bnext Bf hb)) rfl)
                    have c1q := hid (fun (wb : World) (hb : Below wr.heap.size wr wb) => stayb (bnext Bf hb) c1)
                    clear c1 a1
                    generalize y.fa 2 = fa at *
                    generalize y.fc 2 = fc at *
                    replace Bf := hid Bf
                    clear hfb hfn
                    go_wp2_with fail
                    refine q1.out.mono ?_
                    rintro e9 wb ⟨sb, sc, rfl, ho, hb⟩
                    have c1 := c1q.out wb hb
                    have q3 := hid (q2.out wb hb sb sc ho)
                    have Bg := hid (bnext Bf.out hb)
                    clear ho hb c0 q1 q2 c1q
                    go_wp2_with fail
                    refine q3.out.mono ?_
                    rintro e9 wc ⟨rfl, rfl⟩
                    go_wp2_with fail
                    go_roundw
                    case rel => exact ⟨_, _, _, _, _, _, _, _, _, _, _, _, _, _, _, _, _, _, _, _, _, _, _, _, _, ⟨3, by omega, by go_num, Bg.out⟩, rfl⟩
                    case measure => simp [intOf]
                · rcases (show f = 0 ∨ f = 1 ∨ f = 2 by omega) with rfl | rfl | rfl
                  · have c0 := stayb Bf R.out.d2
                    obtain ⟨fb, hfb⟩ : ∃ l, l = e.dur 0 := ⟨_, rfl⟩
                    obtain ⟨fn, hfn⟩ : ∃ n, fb.length = n := ⟨_, rfl⟩
                    have c1 : w5.cell? ⟨gl, 8, none⟩ = some (.slice (u.fa 0) fn (u.fc 0)) := by rw [← hfn, hfb]; exact R.out.l2 0 (u.fv e 0) rfl
                    have a1 : At w5 (u.fa 0) fb := by rw [hfb]; exact (V.out.r2.file 0 (by decide)).at_
                    have q1 := hid (durable_sole w.heap.size q z e 0 0 fb fn wr (V.out.s2.below Bf) rfl (by rw [hfb]; rfl) hfn)
                    have q2 := hid (fun (wb : World) (hb : Below wr.heap.size wr wb) (sb : Option Addr) (sc : Nat) (ho : Own wb wr.heap.size (.slice sb fn sc) fb) => same_any sb (u.fa 0) fn fn sc (u.fc 0) fb fb wb hfn hfn ho.at (a1.below (bnext Bf hb)) rfl)
                    have c1q := hid (fun (wb : World) (hb : Below wr.heap.size wr wb) => stayb (bnext Bf hb) c1)
                    clear c1 a1
                    generalize u.fa 0 = fa at *
                    generalize u.fc 0 = fc at *
                    replace Bf := hid Bf
                    clear hfb hfn
                    go_wp2_with fail
                    refine q1.out.mono ?_
                    rintro e9 wb ⟨sb, sc, rfl, ho, hb⟩
                    have c1 := c1q.out wb hb
                    have q3 := hid (q2.out wb hb sb sc ho)
                    have Bg := hid (bnext Bf.out hb)
                    clear ho hb c0 q1 q2 c1q
                    go_wp2_with fail
                    refine q3.out.mono ?_
                    rintro e9 wc ⟨rfl, rfl⟩
                    go_wp2_with fail
                    go_roundw
                    case rel => exact ⟨_, _, _, _, _, _, _, _, _, _, _, _, _, _, _, _, _, _, _, _, _, _, _, _, _, ⟨1, by omega, by go_num, Bg.out⟩, rfl⟩
                    case measure => simp [intOf]
                  · have c0 := stayb Bf R.out.d2
                    obtain ⟨fb, hfb⟩ : ∃ l, l = e.dur 1 := ⟨_, rfl⟩
                    obtain ⟨fn, hfn⟩ : ∃ n, fb.length = n := ⟨_, rfl⟩
                    have c1 : w5.cell? ⟨gl, 9, none⟩ = some (.slice (u.fa 1) fn (u.fc 1)) := by rw [← hfn, hfb]; exact R.out.l2 1 (u.fv e 1) rfl
                    have a1 : At w5 (u.fa 1) fb := by rw [hfb]; exact (V.out.r2.file 1 (by decide)).at_
                    have q1 := hid (durable_sole w.heap.size q z e 1 0 fb fn wr (V.out.s2.below Bf) rfl (by rw [hfb]; rfl) hfn)
                    have q2 := hid (fun (wb : World) (hb : Below wr.heap.size wr wb) (sb : Option Addr) (sc : Nat) (ho : Own wb wr.heap.size (.slice sb fn sc) fb) => same_any sb (u.fa 1) fn fn sc (u.fc 1) fb fb wb hfn hfn ho.at (a1.below (bnext Bf hb)) rfl)
                    have c1q := hid (fun (wb : World) (hb : Below wr.heap.size wr wb) => stayb (bnext Bf hb) c1)
                    clear c1 a1
                    generalize u.fa 1 = fa at *
                    generalize u.fc 1 = fc at *
                    replace Bf := hid Bf
                    clear hfb hfn
                    go_wp2_with fail
                    refine q1.out.mono ?_
                    rintro e9 wb ⟨sb, sc, rfl, ho, hb⟩
                    have c1 := c1q.out wb hb
                    have q3 := hid (q2.out wb hb sb sc ho)
                    have Bg := hid (bnext Bf.out hb)
                    clear ho hb c0 q1 q2 c1q
                    go_wp2_with fail
                    refine q3.out.mono ?_
                    rintro e9 wc ⟨rfl, rfl⟩
                    go_wp2_with fail
                    go_roundw
                    case rel => exact ⟨_, _, _, _, _, _, _, _, _, _, _, _, _, _, _, _, _, _, _, _, _, _, _, _, _, ⟨2, by omega, by go_num, Bg.out⟩, rfl⟩
                    case measure => simp [intOf]
                  · have c0 := stayb Bf R.out.d2
                    obtain ⟨fb, hfb⟩ : ∃ l, l = e.dur 2 := ⟨_, rfl⟩
                    obtain ⟨fn, hfn⟩ : ∃ n, fb.length = n := ⟨_, rfl⟩
                    have c1 : w5.cell? ⟨gl, 10, none⟩ = some (.slice (u.fa 2) fn (u.fc 2)) := by rw [← hfn, hfb]; exact R.out.l2 2 (u.fv e 2) rfl
                    have a1 : At w5 (u.fa 2) fb := by rw [hfb]; exact (V.out.r2.file 2 (by decide)).at_
                    have q1 := hid (durable_sole w.heap.size q z e 2 0 fb fn wr (V.out.s2.below Bf) rfl (by rw [hfb]; rfl) hfn)
                    have q2 := hid (fun (wb : World) (hb : Below wr.heap.size wr wb) (sb : Option Addr) (sc : Nat) (ho : Own wb wr.heap.size (.slice sb fn sc) fb) => same_any sb (u.fa 2) fn fn sc (u.fc 2) fb fb wb hfn hfn ho.at (a1.below (bnext Bf hb)) rfl)
                    have c1q := hid (fun (wb : World) (hb : Below wr.heap.size wr wb) => stayb (bnext Bf hb) c1)
                    clear c1 a1
                    generalize u.fa 2 = fa at *
                    generalize u.fc 2 = fc at *
                    replace Bf := hid Bf
                    clear hfb hfn
                    go_wp2_with fail
                    refine q1.out.mono ?_
                    rintro e9 wb ⟨sb, sc, rfl, ho, hb⟩
                    have c1 := c1q.out wb hb
                    have q3 := hid (q2.out wb hb sb sc ho)
                    have Bg := hid (bnext Bf.out hb)
                    clear ho hb c0 q1 q2 c1q
                    go_wp2_with fail
                    refine q3.out.mono ?_
                    rintro e9 wc ⟨rfl, rfl⟩
                    go_wp2_with fail
                    go_roundw
                    case rel => exact ⟨_, _, _, _, _, _, _, _, _, _, _, _, _, _, _, _, _, _, _, _, _, _, _, _, _, ⟨3, by omega, by go_num, Bg.out⟩, rfl⟩
                    case measure => simp [intOf]
              · have df : decide ((f : Int) < 3) = false := decide_eq_false (by omega)
                go_wp2_with fail
                go_roundw
                case rel => exact ⟨k + 1, by omega, by go_num, Bf⟩
                case measure => simp [intOf]; omega
          · have dk : decide ((k : Int) < 2) = false := decide_eq_false (by omega)
            have q0 := hid (awake_any wr)
            go_wp2_with fail
            refine q0.out.mono ?_
            rintro e9 wE ⟨rfl, hbE⟩
            go_wp2_with fail
            go_ret
            exact ⟨rfl, B5.trans ((bnext Bk hbE).mono B5.size)⟩

end Go.Proofs.Ytpngnmogjmdmhaa
