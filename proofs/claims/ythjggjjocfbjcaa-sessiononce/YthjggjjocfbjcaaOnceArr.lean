/- SessionOnce: arrives (32). -/
import Derived.Test.YthjggjjocfbjcaaOnceTake
import Derived.Test.YthjggjjocfbjcaaOnceSend
import Derived.Test.YthjggjjocfbjcaaAwake
namespace Go.Proofs.Ythjggjjocfbjcaa
open Go.RowKit

attribute [local go_sem ↓] Go.wp_at_zero Go.wp_at_succ

theorem look_ow (l : List PC) (cl r ak v e : Int) (l' : List PC) (reply : List UInt8) (hp : lookP l cl r ak = (l', v, reply, e)) (a : Option Addr) (n c lo : Nat) (L : List CV) (w : World) (hL : L.map CV.flat = l) (hln : L.length = n) (h : LAt w lo a L) (hn : n ≤ 9000000000000000000) :
    Calls Try.prog 8 #[.slice a n c, .int .i64 cl, .int .i64 r, .int .i64 ak] w fun en w' => ∃ a' c' L' ra rc, en = .returned (.tuple #[.slice a' l'.length c', .int .u8 v, .slice ra reply.length rc, .int .i64 e]) ∧ L'.map CV.flat = l' ∧ L'.length = l'.length ∧ LAt w' w.heap.size a' L' ∧ Own w' w.heap.size (.slice ra reply.length rc) reply ∧ Below w.heap.size w w' := by
  refine (look_any a n c lo L cl r ak w hln h hn).mono ?_
  rintro en w' ⟨a', c', L', ra, rc, rfl, h1, h2, h3, h4⟩
  rw [hL, hp] at h1 h3 ⊢
  refine ⟨a', c', L', ra, rc, rfl, h1, ?_, h2, h3, h4⟩
  have := congrArg List.length h1; simp at this; exact this

theorem two_form {d : Nat} (h : d < 256) : two (d : Int) = [0, UInt8.ofNat d] := by
  unfold two
  have e : (d : Int).toNat = d := by omega
  rw [e, Nat.div_eq_of_lt h]
  rfl

theorem or_zero {d : Nat} (h : d < 256) : bits BinOp.or IntKind.i64 0 (d : Int) = (d : Int) := by
  have : ∀ x : Fin 256, bits BinOp.or IntKind.i64 0 (x.val : Int) = (x.val : Int) := by decide +kernel
  exact this ⟨d, h⟩

theorem OP.back_more {n : Nat} {L : List CV} {A : Nat → AV} {T B : List P3} {R : Nat → List Int} {ctr : Int} (h : OP n L A T B R ctr) (x : P3) (hx : ∃ k : Nat, k < 4 ∧ x.1 = (k : Int) + 1 ∧ 1 ≤ x.2.1 ∧ rowF (R k) x.2.1 = x.2.2 ∧ x.2.2 ≠ 0) : OP (n + 1) L A T (B ++ [x]) R ctr :=
  ⟨h.right, h.ids, h.ci, fun k hk => by have := h.next k hk; omega, h.to, fun y hy => by
    rcases List.mem_append.1 hy with q | q
    · exact h.back y q
    · rw [List.mem_singleton.1 q]; exact hx, ⟨h.cb.1, by have := h.cb.2; omega⟩, h.vals, by have := h.tl; omega, by have := h.bl; simp; omega⟩

theorem OP.back_one {n : Nat} {L : List CV} {A : Nat → AV} {T B : List P3} {R : Nat → List Int} {ctr : Int} (h : OP n L A T B R ctr) (x : P3) (hb : B.length + 1 ≤ n) (hx : ∃ k : Nat, k < 4 ∧ x.1 = (k : Int) + 1 ∧ 1 ≤ x.2.1 ∧ rowF (R k) x.2.1 = x.2.2 ∧ x.2.2 ≠ 0) : OP n L A T (B ++ [x]) R ctr :=
  ⟨h.right, h.ids, h.ci, h.next, h.to, fun y hy => by
    rcases List.mem_append.1 hy with q | q
    · exact h.back y q
    · rw [List.mem_singleton.1 q]; exact hx, h.cb, h.vals, h.tl, by simp; omega⟩

theorem two_lit (w : World) (c : Int) (hc : 0 ≤ c ∧ c < 256) : At (w.alloc (.cells #[.int .u8 (IntKind.u8.wrap (c / 256)), .int .u8 (IntKind.u8.wrap c)] 5)).drew (some ⟨w.heap.size, 0, none⟩) (two c) := by
  obtain ⟨d, rfl⟩ : ∃ d : Nat, c = (d : Int) := ⟨c.toNat, by omega⟩
  have hd : d < 256 := by omega
  rw [two_form hd]
  intro _
  refine ⟨w.heap.size, 0, rfl, fun i hi => ?_⟩
  have hh : (w.alloc (.cells #[.int .u8 (IntKind.u8.wrap ((d : Int) / 256)), .int .u8 (IntKind.u8.wrap (d : Int))] 5)).drew.heap[w.heap.size]? = some (.cells #[.int .u8 (IntKind.u8.wrap ((d : Int) / 256)), .int .u8 (IntKind.u8.wrap (d : Int))] 5 (0, 0)) := heap_alloc_new w _
  rw [Nat.zero_add, cell_of_row _ w.heap.size i _ 5 (0, 0) hh]
  have e0 : IntKind.u8.wrap ((d : Int) / 256) = 0 := by rw [show (d : Int) / 256 = 0 by omega]; rfl
  have e1 : IntKind.u8.wrap (d : Int) = (d : Int) := by
    have : ∀ x : Fin 256, IntKind.u8.wrap (x.val : Int) = (x.val : Int) := by decide +kernel
    exact this ⟨d, hd⟩
  rw [e0, e1]
  rcases (show i = 0 ∨ i = 1 by simp at hi; omega) with rfl | rfl
  · rfl
  · simp [Nat.mod_eq_of_lt hd]

/-- One reply more on its way. -/
theorem back_app {base g : Nat} {w : World} {la : Option Addr} {lc : Nat} {L : List CV} {A : Nat → AV} {tv : Value} {T : List P3} {bv : Value} {B : List P3} {rb : Nat → Nat} {R : Nat → List Int} {ctr : Int}
    (h : OS base g w la lc L A tv T bv B rb R ctr) (x : P3) (hl : B.length ≤ 1000) (hbase : base ≤ w.heap.size) :
    ∃ a9 c9 w1, (Builtin.append_ #[62, 62] 62 #[bv, .slice (some ⟨w.heap.size, 0, none⟩) 1 1]).run Try.prog (w.alloc (.cells #[.int .i64 x.1, .int .i64 x.2.1, .int .i64 x.2.2] 74)).drew = .ok (.slice a9 (B.length + 1) c9) w1 ∧
      OS base g (w1.setCell ⟨g, 18, none⟩ (.slice a9 (B.length + 1) c9)) la lc L A tv T (.slice a9 (B.length + 1) c9) (B ++ [x]) rb R ctr ∧ Kp (Sx g tv bv rb) w (w1.setCell ⟨g, 18, none⟩ (.slice a9 (B.length + 1) c9)) ∧
      w1.cell? ⟨g, 18, none⟩ = some bv ∧ w1.cell? ⟨g, 27, none⟩ = some (.int .i64 ctr) ∧ w1.frozen? ⟨g, 18, none⟩ = false ∧ ∀ p : Addr, ∀ v, ¬ Sx g tv bv rb p.block → w.cell? p = some v → w1.cell? p = some v := by
  obtain ⟨i0, hi, hz0, hz1, hz2⟩ := info_parts info74
  obtain ⟨W, hW⟩ : ∃ W, W = (w.alloc (.cells #[.int .i64 x.1, .int .i64 x.2.1, .int .i64 x.2.2] 74)).drew := ⟨_, rfl⟩
  have hb1 : Below w.heap.size w W := by rw [hW]; exact (below_lit w _).drew
  have hO := h.below hb1
  have hat : CAt W (some ⟨w.heap.size, 0, none⟩) (c3 x) := by
    rw [hW]
    exact cat_lit w 74 _ _ rfl
  obtain ⟨bv', w1, hrun, hq, hgr, hv⟩ := QR.app (ty := 62) Try.underlying62 hi hz0 hz1 hz2 rfl hO.back x ⟨w.heap.size, 0, none⟩ 1 hat (by omega) (Nat.le_trans hbase hb1.size)
  have hS := hO.setB hq (Kp.grown hgr) hv
  obtain ⟨a9, c9, rfl, -⟩ := hq.form
  have e9 : (B ++ [x]).length = B.length + 1 := by simp
  rw [e9] at hrun hS
  rw [← hW]
  have hK1 : Kp (Sx g tv bv rb) w w1 := (Kp.of_below hb1).trans ((Kp.grown hgr).mono fun k _ e => .inr (.inr (.inl e)))
  have hb9 : WB w1 g (.slice la L.length lc) A tv bv rb ctr := hO.blk.kp (Kp.grown hgr) fun e => (hO.b_ne e).1 rfl
  refine ⟨a9, c9, w1, hrun, hS, hK1.trans ((kp_set w1 g 18 _).mono fun k _ e => .inl e), hb9.b, hb9.c, hb9.free 18, fun p v hp hc => ?_⟩
  rw [World.cell?_of_block (w := w) (a := p) (hK1.block p.block (World.block_lt_of_cell? _ _ hc) hp)]
  exact hc

set_option maxRecDepth 100000 in
set_option maxHeartbeats 4000000 in
theorem arrives_any {n base g : Nat} {w : World} {la : Option Addr} {lc : Nat} {L : List CV} {A : Nat → AV} {tv : Value} {T : List P3} {bv : Value} {B : List P3} {rb : Nat → Nat} {R : Nat → List Int} {ctr : Int}
    (h : OS base g w la lc L A tv T bv B rb R ctr) (hp : OP n L A T B R ctr) (hn : n < 200) (k q : Nat) (hk : k < 4) (ak : Int) (hpk : PkOk (A k).flat (q : Int) ak) (hbase : base ≤ w.heap.size) :
    Calls Try.prog 32 #[.pointer (some ⟨g, 0, none⟩), .agg #[.int .i64 ((k : Int) + 1), .int .i64 (q : Int), .int .i64 ak]] w fun e w' => e = .returned (.bool true) ∧ (∃ la' lc' L' bv' B' R' ctr', OS base g w' la' lc' L' A tv T bv' B' rb R' ctr' ∧ OP (n + 1) L' A T B' R' ctr') ∧ Below base w w' := by
  have hlen : ∀ i, i < 8 → (R i).length = 250 := fun i hi => (h.rows i hi).1.1
  obtain ⟨hq2, l', v, rep, hlk, hO, hj⟩ := hp.look (by omega) hlen k hk (q : Int) ak hpk
  obtain ⟨W, hW⟩ : ∃ W, W = w.alloc (.cells #[.int .i64 ((k : Int) + 1), .int .i64 (q : Int), .int .i64 ak] 71) := ⟨_, rfl⟩
  have hb0 : Below w.heap.size w W := by rw [hW]; exact below_lit w _
  have h0 := h.below hb0
  have hX : W.heap[w.heap.size]? = some (.cells #[.int .i64 ((k : Int) + 1), .int .i64 (q : Int), .int .i64 ak] 71 (0, 0)) := by rw [hW]; exact heap_alloc_new w _
  obtain ⟨X, hXe⟩ : ∃ X, X = w.heap.size := ⟨_, rfl⟩
  rw [← hXe] at hX
  have hXlt : X < W.heap.size := (Array.getElem?_eq_some_iff.1 hX).1
  have x0 : W.cell? ⟨X, 0, none⟩ = some (.int .i64 ((k : Int) + 1)) := cell_of_row _ X 0 _ 71 (0, 0) hX
  have x1 : W.cell? ⟨X, 1, none⟩ = some (.int .i64 (q : Int)) := cell_of_row _ X 1 _ 71 (0, 0) hX
  have u2 : W.cell? ⟨X, 2, none⟩ = some (.int .i64 ak) := cell_of_row _ X 2 _ 71 (0, 0) hX
  have y0 := h0.blk.l
  have glt := h0.blk.lt
  have k0 : (0 : Int) ≤ (k : Int) := by omega
  have k4 : (k : Int) < 4 := by omega
  have hL16 : L.length ≤ 16 := by have := hp.room; simp at this; omega
  have c1 : Calls Try.prog 8 #[.slice la L.length lc, .int .i64 ((k : Int) + 1), .int .i64 (q : Int), .int .i64 ak] W.drew fun e w2 => ∃ a' c' L' ra rc, e = .returned (.tuple #[.slice a' l'.length c', .int .u8 v, .slice ra rep.length rc, .int .i64 0]) ∧ Hid (L'.map CV.flat = l') ∧ Hid (L'.length = l'.length) ∧ Hid (LAt w2 W.heap.size a' L') ∧ Hid (Own w2 W.heap.size (.slice ra rep.length rc) rep) ∧ Hid (Below W.heap.size W w2) ∧
      w2.cell? ⟨g, 0, none⟩ = some (.slice la L.length lc) ∧ w2.cell? ⟨X, 0, none⟩ = some (.int .i64 ((k : Int) + 1)) ∧ w2.cell? ⟨X, 1, none⟩ = some (.int .i64 (q : Int)) ∧ w2.cell? ⟨X, 2, none⟩ = some (.int .i64 ak) := by
    refine (look_ow _ _ _ _ _ _ _ _ hlk la L.length lc 0 L W.drew rfl rfl (h0.cl.below (drew_below W)) (by omega)).mono ?_
    rintro e w2 ⟨a', c', L', ra, rc, rfl, e1, e2, e3, e4, e5⟩
    have e6 : Below W.heap.size W w2 := bnext (drew_below W) e5
    exact ⟨a', c', L', ra, rc, rfl, hid e1, hid e2, hid e3, hid e4, hid e6, (e6.cell (p := ⟨g, 0, none⟩) glt).trans y0, (e6.cell (p := ⟨X, 0, none⟩) hXlt).trans x0, (e6.cell (p := ⟨X, 1, none⟩) hXlt).trans x1, (e6.cell (p := ⟨X, 2, none⟩) hXlt).trans u2⟩
  replace h := hid h
  replace hp := hid hp
  replace hO := hid hO
  replace h0 := hid h0
  replace hb0 := hid hb0
  replace hX := hid hX
  replace hlk := hid hlk
  replace hj := hid hj
  go_enter Try.func32, Try.ntmps32
  go_upto_region 1 with fail
  rw [← hXe, ← hW]
  replace hW := hid hW
  replace hXe := hid hXe
  go_cut [5, 6, 7, 8] (fun s5 s6 s7 s8 wx => ∃ a' c' L' ra rc, s5 = .slice a' l'.length c' ∧ s6 = .int .u8 v ∧ s7 = .slice ra rep.length rc ∧ s8 = .int .i64 0 ∧ Hid (L'.map CV.flat = l') ∧ Hid (L'.length = l'.length) ∧ Hid (LAt wx W.heap.size a' L') ∧ Hid (Own wx W.heap.size (.slice ra rep.length rc) rep) ∧ Hid (Below W.heap.size W wx))
  case first =>
    go_region_held3 (fun w2 : World => w2.cell? ⟨g, 0, none⟩ = some (.slice la L.length lc) ∧ w2.cell? ⟨X, 0, none⟩ = some (.int .i64 ((k : Int) + 1)) ∧ w2.cell? ⟨X, 1, none⟩ = some (.int .i64 (q : Int)) ∧ w2.cell? ⟨X, 2, none⟩ = some (.int .i64 ak)) (go_keep) (first
      | (go_at_call 8; refine c1.mono ?_; rintro e w2 ⟨a', c', L', ra, rc, rfl, e1, e2, e3, e4, e5, e6, e7, e8, e9⟩))
    go_wp2_with fail
    go_meet
    exact ⟨a', c', L', ra, rc, rfl, rfl, rfl, rfl, e1, e2, e3, e4, e5⟩
  case rest =>
    obtain ⟨a', c', L', ra, rc, rfl, rfl, rfl, rfl, e1, e2, e3, e4, e5⟩ := hcut
    clear c1 y0
    have h6 := h0.out.below e5.out
    have hg0 := h6.blk.l
    have hgf := h6.blk.free 0
    have z0 : wc.cell? ⟨X, 0, none⟩ = some (.int .i64 ((k : Int) + 1)) := (e5.out.cell (p := ⟨X, 0, none⟩) hXlt).trans x0
    replace h6 := hid h6
    clear x0
    go_upto_region 6 with fail
    have h7 := h6.out.setL a' c' l'.length L' e3.out (fun j hj => (h0.out.slt j hj).2) e2.out
    have hp7 := hO.out L' e1.out
    have hk7 := kp_set wc g 0 (.slice a' l'.length c')
    have hXg : X ≠ g := fun e => by rw [hXe.out] at e; have := h.out.blk.lt; omega
    have hat : At (wc.setCell ⟨g, 0, none⟩ (.slice a' l'.length c')) ra rep :=
      (e4.out.kp hk7 (fun j hj e => by have := (e4.out.lt j hj).1; omega)).at_
    obtain ⟨W7, hW7⟩ : ∃ W7, W7 = wc.setCell ⟨g, 0, none⟩ (.slice a' l'.length c') := ⟨_, rfl⟩
    rw [← hW7] at h7 hk7 hat ⊢
    have z1 : wc.cell? ⟨X, 1, none⟩ = some (.int .i64 (q : Int)) := (e5.out.cell (p := ⟨X, 1, none⟩) hXlt).trans x1
    have r0 : W7.cell? ⟨X, 0, none⟩ = some (.int .i64 ((k : Int) + 1)) := by
      rw [World.cell?_of_block (w := wc) (a := ⟨X, 0, none⟩) (hk7.block X (World.block_lt_of_cell? _ _ z0) hXg)]; exact z0
    have r1 : W7.cell? ⟨X, 1, none⟩ = some (.int .i64 (q : Int)) := by
      rw [World.cell?_of_block (w := wc) (a := ⟨X, 1, none⟩) (hk7.block X (World.block_lt_of_cell? _ _ z1) hXg)]; exact z1
    have hqi : (0 : Int) ≤ (q : Int) := by omega
    have hq5 : (q : Int) < 250 := by omega
    have cD : W7.cell? ⟨g, 19 + k, none⟩ = some (.slice (some ⟨rb k, 0, none⟩) 250 250) := h7.blk.d k hk
    have cF : W7.cell? ⟨g, 23 + k, none⟩ = some (.slice (some ⟨rb (4 + k), 0, none⟩) 250 250) := h7.blk.f k hk
    have cDq := (h7.rows k (by omega)).1.cell q (by omega)
    have cFq := (h7.rows (4 + k) (by omega)).1.cell q (by omega)
    have eD : rowF (R k) (q : Int) = (R k).getD q 0 := by unfold rowF; rw [if_pos (by omega)]; simp
    have eF : rowF (R (4 + k)) (q : Int) = (R (4 + k)).getD q 0 := by unfold rowF; rw [if_pos (by omega)]; simp
    obtain ⟨D, hD⟩ : ∃ D, D = (R k).getD q 0 := ⟨_, rfl⟩
    obtain ⟨F, hF⟩ : ∃ F, F = (R (4 + k)).getD q 0 := ⟨_, rfl⟩
    rw [← hD] at cDq eD
    rw [← hF] at cFq eF
    have hj2 := hj.out
    rw [eD, eF] at hj2
    have hB7 : Kp (Sx g tv bv rb) w W7 := ((Kp.of_below hb0.out).trans (Kp.of_below e5.out)).trans (hk7.mono fun j _ e => .inl e)
    have hvD := hp.out.vals k hk (q : Int)
    have hcb := hp.out.cb
    rw [eD] at hvD
    replace h7 := hid h7
    replace hp7 := hid hp7
    replace hk7 := hid hk7
    replace hW7 := hid hW7
    replace hB7 := hid hB7
    replace hD := hid hD
    replace hF := hid hF
    replace eD := hid eD
    replace eF := hid eF
    clear z0 z1 hj x1 u2 hg0 hgf
    rcases hj2 with ⟨rfl, rfl, hF0⟩ | ⟨rfl, rfl, hD0⟩ | ⟨rfl, rfl, hD0, hdone⟩
    · have d1 : (F != 0) = true := by simpa using hF0
      replace hF0 := hid hF0
      go_wp2_with fail
      go_quiet (fail)
      go_wp2
      go_ret
      have bd := below_drewN (Below.refl W7.heap.size W7) nq
      exact ⟨rfl, ⟨_, _, _, _, _, _, _, h7.out.below bd, hp7.out.mono (by omega)⟩, (hB7.out.then bd).below (fun j hj => (h.out.slt j hj).1) hbase⟩
    · obtain ⟨d, rfl⟩ : ∃ d : Nat, D = (d : Int) := ⟨D.toNat, by omega⟩
      have hd : d < 256 := by omega
      rw [two_form hd] at hat
      obtain ⟨vb, vo, rfl, hc⟩ := hat (by simp)
      have v0 : W7.cell? ⟨vb, vo, none⟩ = some (.int .u8 0) := hc 0 (by simp)
      have v1 : W7.cell? ⟨vb, vo + 1, none⟩ = some (.int .u8 (d : Int)) := by
        have := hc 1 (by simp)
        simp only [List.getElem_cons_succ, List.getElem_cons_zero, UInt8.toNat_ofNat', Nat.mod_eq_of_lt hd] at this
        exact this
      clear hc hat
      rw [show (two (d : Int)).length = 2 from rfl]
      replace hD0 := hid hD0
      go_wp2_with fail
      have hor := or_zero hd
      go_quiet (fail)
      have bd := below_drewN (Below.refl W7.heap.size W7) nq
      clear v0 v1 hor
      have w0 : (W7.drewN nq).cell? ⟨X, 0, none⟩ = some (.int .i64 ((k : Int) + 1)) := r0
      have w1 : (W7.drewN nq).cell? ⟨X, 1, none⟩ = some (.int .i64 (q : Int)) := r1
      have w2 : (W7.drewN nq).cell? ⟨g, 19 + k, none⟩ = some (.slice (some ⟨rb k, 0, none⟩) 250 250) := cD
      have w3 : (W7.drewN nq).cell? ⟨rb k, q, none⟩ = some (.int .i64 (d : Int)) := cDq
      generalize W7.drewN nq = wd at bd w0 w1 w2 w3 ⊢
      clear r0 r1 cD cF cDq cFq
      go_wp2_with fail
      go_quiet (fail)
      have bd2 := bnext bd (below_drewN (Below.refl wd.heap.size wd) nq)
      have w4 : (wd.drewN nq).cell? ⟨X, 0, none⟩ = some (.int .i64 ((k : Int) + 1)) := w0
      have w5 : (wd.drewN nq).cell? ⟨X, 1, none⟩ = some (.int .i64 (q : Int)) := w1
      generalize wd.drewN nq = we at bd2 w4 w5 ⊢
      clear w0 w1 w2 w3
      have h9 := h7.out.below bd2
      have hXS : ¬ Sx g tv bv rb X := fun e => by have := (h.out.slt X e).2; have := hXe.out; omega
      have hlb := hp.out.bl
      obtain ⟨a9, c9, wf, hrun, hS, hKf, f1, f2, f3, f4⟩ := back_app h9 ((k : Int) + 1, (q : Int), (d : Int)) (by omega) (Nat.le_trans hbase (Nat.le_trans hB7.out.size bd2.size))
      have f5 := f4 ⟨X, 0, none⟩ _ hXS w4
      have f6 := f4 ⟨X, 1, none⟩ _ hXS w5
      have f7 := h9.blk.b
      have glt2 := h9.blk.lt
      have Xlt2 : X < we.heap.size := World.block_lt_of_cell? _ _ w4
      have hgX : g ≠ X := fun e => hXg e.symm
      replace hrun := hid hrun
      replace hS := hid hS
      replace hKf := hid hKf
      replace h9 := hid h9
      clear f2 f4
      go_wp2_with fail
      go_region_law (first
        | (refine step_ap3 (by rfl) (.tmp 148) (.tmp 155) 62 (by rfl) (by rfl) bv (.slice (some ⟨we.heap.size, 0, none⟩) 1 1) _ (by rfl) (by rfl) hrun.out ?_))
      all_goals
        go_wp2
        go_ret
        refine ⟨rfl, ⟨_, _, _, _, _, _, _, hS.out, ?_⟩, ((hB7.out.then bd2).trans hKf.out).below (fun j hj => (h.out.slt j hj).1) hbase⟩
        exact hp7.out.back_more ((k : Int) + 1, (q : Int), (d : Int)) ⟨k, hk, rfl, by simp only; omega, by rw [eD.out], by have := hD0.out; simpa using this⟩
    · obtain ⟨l2, hd1, hd2⟩ := hdone
      subst hD0
      replace hd1 := hid hd1
      replace hd2 := hid hd2
      go_wp2_with fail
      go_quiet (fail)
      have bd := below_drewN (Below.refl W7.heap.size W7) nq
      have h8 := h7.out.below bd
      have w0 : (W7.drewN nq).cell? ⟨X, 0, none⟩ = some (.int .i64 ((k : Int) + 1)) := r0
      have w1 : (W7.drewN nq).cell? ⟨X, 1, none⟩ = some (.int .i64 (q : Int)) := r1
      generalize W7.drewN nq = wd at bd h8 w0 w1 ⊢
      clear r0 r1 cD cF cDq cFq hat
      have y1 := h8.blk.c
      have y2 := h8.blk.free 27
      have h9 := h8.setC (ctr + 1)
      have hk9 := kp_set wd g 27 (.int .i64 (ctr + 1))
      replace h8 := hid h8
      go_upto_region 12 with fail
      obtain ⟨we, hwe⟩ : ∃ we, we = wd.setCell ⟨g, 27, none⟩ (.int .i64 (ctr + 1)) := ⟨_, rfl⟩
      rw [← hwe] at h9 hk9 ⊢
      have w2 : we.cell? ⟨X, 0, none⟩ = some (.int .i64 ((k : Int) + 1)) := by
        rw [World.cell?_of_block (w := wd) (a := ⟨X, 0, none⟩) (hk9.block X (World.block_lt_of_cell? _ _ w0) hXg)]; exact w0
      have w3 : we.cell? ⟨X, 1, none⟩ = some (.int .i64 (q : Int)) := by
        rw [World.cell?_of_block (w := wd) (a := ⟨X, 1, none⟩) (hk9.block X (World.block_lt_of_cell? _ _ w1) hXg)]; exact w1
      have y3 := h9.blk.c
      have y4 : we.cell? ⟨g, 19 + k, none⟩ = some (.slice (some ⟨rb k, 0, none⟩) 250 250) := h9.blk.d k hk
      have y5 := (h9.rows k (by omega)).1.cell q (by omega)
      have y6 := (h9.rows k (by omega)).1.free q
      have hrX : rb k ≠ X := fun e => by have := (h.out.slt (rb k) (.inr (.inr (.inr ⟨k, by omega, rfl⟩)))).2; have := hXe.out; omega
      have h10 := (h9.setR k (by omega) q (ctr + 1)).below (drew_below _)
      have hk10 := (kp_set we (rb k) q (.int .i64 (ctr + 1))).then (drew_below _)
      replace h9 := hid h9
      replace hk9 := hid hk9
      replace hwe := hid hwe
      clear w0 w1 y1 y2
      go_region
      obtain ⟨wf, hwf⟩ : ∃ wf, wf = (we.setCell ⟨rb k, q, none⟩ (.int .i64 (ctr + 1))).drew := ⟨_, rfl⟩
      rw [← hwf] at h10 hk10 ⊢
      have w4 : wf.cell? ⟨X, 0, none⟩ = some (.int .i64 ((k : Int) + 1)) := by
        rw [World.cell?_of_block (w := we) (a := ⟨X, 0, none⟩) (hk10.block X (World.block_lt_of_cell? _ _ w2) (fun e => hrX e.symm))]; exact w2
      have w5 : wf.cell? ⟨X, 1, none⟩ = some (.int .i64 (q : Int)) := by
        rw [World.cell?_of_block (w := we) (a := ⟨X, 1, none⟩) (hk10.block X (World.block_lt_of_cell? _ _ w3) (fun e => hrX e.symm))]; exact w3
      have z5 := h10.blk.l
      have z6 := h10.blk.c
      have glt3 := h10.blk.lt
      have Xlt3 : X < wf.heap.size := World.block_lt_of_cell? _ _ w4
      replace h10 := hid h10
      replace hk10 := hid hk10
      replace hwf := hid hwf
      clear w2 w3 y3 y4 y5 y6
      have hatl : At (wf.alloc (.cells #[.int .u8 (IntKind.u8.wrap ((ctr + 1) / 256)), .int .u8 (IntKind.u8.wrap (ctr + 1))] 5)).drew (some ⟨wf.heap.size, 0, none⟩) (two (ctr + 1)) := two_lit wf (ctr + 1) (by omega)
      have c9 : Calls Try.prog 9 #[.slice a' L'.length c', .int .i64 ((k : Int) + 1), .int .i64 (q : Int), .slice (some ⟨wf.heap.size, 0, none⟩) 2 2] (wf.alloc (.cells #[.int .u8 (IntKind.u8.wrap ((ctr + 1) / 256)), .int .u8 (IntKind.u8.wrap (ctr + 1))] 5)).drew fun e w2 => ∃ a2 c2 L2, e = .returned (.tuple #[.slice a2 l2.length c2, .int .i64 0]) ∧ Hid (L2.map CV.flat = l2) ∧ Hid (L2.length = l2.length) ∧ Hid (LAt w2 wf.heap.size a2 L2) ∧ Hid (Below wf.heap.size wf w2) ∧ (∀ j, w2.frozen? ⟨g, j, none⟩ = false) ∧ w2.cell? ⟨X, 0, none⟩ = some (.int .i64 ((k : Int) + 1)) ∧ w2.cell? ⟨X, 1, none⟩ = some (.int .i64 (q : Int)) ∧ w2.cell? ⟨g, 0, none⟩ = some (.slice a' L'.length c') ∧ w2.cell? ⟨g, 27, none⟩ = some (.int .i64 (ctr + 1)) := by
        have bl : Below wf.heap.size wf (wf.alloc (.cells #[.int .u8 (IntKind.u8.wrap ((ctr + 1) / 256)), .int .u8 (IntKind.u8.wrap (ctr + 1))] 5)).drew := (below_lit wf _).drew
        refine (done_of _ _ _ _ _ _ _ hd1.out rfl a' L'.length c' 0 L' (some ⟨wf.heap.size, 0, none⟩) 2 2 _ e1.out rfl (h10.out.cl.below bl) rfl (by omega) hatl (by have := e2.out; have := hp7.out.room; simp at this; omega)).mono ?_
        rintro e w2 ⟨a2, c2, L2, rfl, q1, q2, q3, q4⟩
        have q5 : Below wf.heap.size wf w2 := bnext bl q4
        exact ⟨a2, c2, L2, rfl, hid q1, hid q2, hid (q3.le bl.size), hid q5, (h10.out.below q5).blk.free, (q5.cell (p := ⟨X, 0, none⟩) Xlt3).trans w4, (q5.cell (p := ⟨X, 1, none⟩) Xlt3).trans w5, (q5.cell (p := ⟨g, 0, none⟩) glt3).trans z5, (q5.cell (p := ⟨g, 27, none⟩) glt3).trans z6⟩
      replace hatl := hid hatl
      go_upto_region 13 with fail
      go_region_held3 (fun w2 : World => w2.cell? ⟨X, 0, none⟩ = some (.int .i64 ((k : Int) + 1)) ∧ w2.cell? ⟨X, 1, none⟩ = some (.int .i64 (q : Int)) ∧ w2.cell? ⟨g, 0, none⟩ = some (.slice a' L'.length c') ∧ w2.cell? ⟨g, 27, none⟩ = some (.int .i64 (ctr + 1))) (go_keep) (first
        | (go_at_call 9; refine c9.mono ?_; rintro e w2 ⟨a2, c2, L2, rfl, q1, q2, q3, q4, q5, q6, q7, q8, q9⟩))
      clear c9 hatl w4 w5 z5 z6
      have h11 := (h10.out.below q4.out).setL a2 c2 l2.length L2 q3.out (fun j hj => (h10.out.slt j hj).2) q2.out
      have hk11 := kp_set w2 g 0 (.slice a2 l2.length c2)
      go_upto_region 17 with fail
      obtain ⟨we', hwe'⟩ : ∃ we', we' = w2.setCell ⟨g, 0, none⟩ (.slice a2 l2.length c2) := ⟨_, rfl⟩
      rw [← hwe'] at h11 hk11 ⊢
      have w4 : we'.cell? ⟨X, 0, none⟩ = some (.int .i64 ((k : Int) + 1)) := by
        rw [World.cell?_of_block (w := w2) (a := ⟨X, 0, none⟩) (hk11.block X (World.block_lt_of_cell? _ _ q6) hXg)]; exact q6
      have w5 : we'.cell? ⟨X, 1, none⟩ = some (.int .i64 (q : Int)) := by
        rw [World.cell?_of_block (w := w2) (a := ⟨X, 1, none⟩) (hk11.block X (World.block_lt_of_cell? _ _ q7) hXg)]; exact q7
      have hXS : ¬ Sx g tv bv rb X := fun e => by have := (h.out.slt X e).2; have := hXe.out; omega
      have hlb := hp.out.bl
      have hK11 : Kp (Sx g tv bv rb) w we' :=
        ((((hB7.out.then bd).trans (hk9.out.mono fun j _ e => .inl e)).trans (hk10.out.mono fun j _ e => .inr (.inr (.inr ⟨k, by omega, e⟩)))).then q4.out).trans (hk11.mono fun j _ e => .inl e)
      obtain ⟨a9, c9, wf', hrun, hS, hKf, f1, f2, f3, f4⟩ := back_app h11 ((k : Int) + 1, (q : Int), ctr + 1) (by omega) (Nat.le_trans hbase hK11.size)
      have f5 := f4 ⟨X, 0, none⟩ _ hXS w4
      have f6 := f4 ⟨X, 1, none⟩ _ hXS w5
      have f7 := h11.blk.b
      have f8 := h11.blk.c
      have glt2 := h11.blk.lt
      have Xlt2 : X < we'.heap.size := World.block_lt_of_cell? _ _ w4
      have hgX : g ≠ X := fun e => hXg e.symm
      have hfin : OP (n + 1) L2 A T (B ++ [((k : Int) + 1, (q : Int), ctr + 1)]) (upd R k ((R k).set q (ctr + 1))) (ctr + 1) := by
        have hz := hd2.out L2 q1.out
        have hrow := row_upd hlen k (by omega) (q : Int) (ctr + 1) (by omega) (by omega) k
        rw [show ((q : Int)).toNat = q by omega] at hz hrow
        refine hz.back_one ((k : Int) + 1, (q : Int), ctr + 1) (by have := hp.out.bl; omega) ⟨k, hk, rfl, by simp only; omega, ?_, by simp only; omega⟩
        rw [hrow]
        simp
      have hBf := hid ((hK11.trans hKf).below (fun j hj => (h.out.slt j hj).1) hbase)
      replace hfin := hid hfin
      replace hrun := hid hrun
      replace hS := hid hS
      replace hKf := hid hKf
      replace h11 := hid h11
      replace hk11 := hid hk11
      replace hK11 := hid hK11
      replace hwe' := hid hwe'
      clear f4 q5 q6 q7 q8 q9 glt3 Xlt3
      go_region_law (first
        | (refine step_ap3 (by rfl) (.tmp 106) (.tmp 116) 62 (by rfl) (by rfl) bv (.slice (some ⟨we'.heap.size, 0, none⟩) 1 1) _ (by rfl) (by rfl) hrun.out ?_))
      all_goals
        go_wp2
        go_ret
        exact ⟨rfl, ⟨_, _, _, _, _, _, _, hS.out, hfin.out⟩, hBf.out⟩

end Go.Proofs.Ythjggjjocfbjcaa
