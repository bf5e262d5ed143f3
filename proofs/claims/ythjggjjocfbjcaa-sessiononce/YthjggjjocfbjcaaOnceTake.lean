/- SessionOnce: takes (33). -/
import Derived.Test.YthjggjjocfbjcaaOnceT
import Derived.Test.YthjggjjocfbjcaaNumC
import Derived.Deep.RegionHeld3
import Derived.Deep.DeepCutAuto
import Derived.Deep.DrawnRows
import Derived.BigQuiet
namespace Go.Proofs.Ythjggjjocfbjcaa
open Go.RowKit

attribute [local go_sem ↓] Go.wp_at_zero Go.wp_at_succ

def AV.val (x : AV) : Value := .agg #[.int .i64 x.id, .int .i64 x.next, .int .i64 x.acked, x.wv]

/-- Take of a client's asker, at whatever world it lies. -/
theorem take_v (x : AV) (r : Int) {a2 : PA} {was : Bool} (hR : takeP x.flat r = (a2, was, 0)) (hn : 1 ≤ x.next ∧ x.next ≤ MM) (hl : x.ks.length ≤ 1000) (w : World) (hx : KAt w 0 x.a x.ks) :
    Calls Try.prog 13 #[x.val, .int .i64 r] w fun e w2 => ∃ x2 : AV, e = .returned (.tuple #[x2.val, .bool was, .int .i64 0]) ∧ x2.flat = a2 ∧ KAt w2 w.heap.size x2.a x2.ks ∧ Below w.heap.size w w2 := by
  unfold MM at hn
  refine (take_of (id := x.id) (next := x.next) (acked := x.acked) (id2 := a2.1) (next2 := a2.2.1) (acked2 := a2.2.2.1) (L := x.ks.map KV.flat) (L2 := a2.2.2.2) (r := r) (e := 0) (was := was) hR rfl x.a x.ks.length x.c 0 x.ks w rfl rfl hx hl (by omega)).mono ?_
  rintro e w2 ⟨b2, c2, ks2, rfl, h1, h2, h3, h4⟩
  refine ⟨⟨a2.1, a2.2.1, a2.2.2.1, b2, c2, ks2⟩, ?_, ?_, h3, h4⟩
  · simp only [AV.val, AV.wv, h2]
  · simp only [AV.flat, h1]

theorem ks_short {x : AV} (h : AskR x.flat) : x.ks.length ≤ 1000 := by
  have room : ∀ (l : List PK) (lo hi : Int), Up lo l → (∀ k ∈ l, k.1 ≤ hi) → lo ≤ hi → (l.length : Int) ≤ hi - lo := by
    intro l
    induction l with
    | nil => intro lo hi _ _ h; simp; omega
    | cons y t ih =>
      intro lo hi hu hm _
      have h1 := hu.1
      have h2 := hm y (by simp)
      have := ih y.1 hi hu.2 (fun z hz => hm z (by simp [hz])) h2
      simp only [List.length_cons]
      omega
  have h1 := ack_below (next := x.flat.2.1) h.up
  have h2 := h.win
  have h3 := h.ack
  have h4 : Up x.flat.2.2.1 x.flat.2.2.2 := by
    rw [h3]
    cases hl : x.flat.2.2.2 with
    | nil => exact trivial
    | cons y t =>
      have hu := h.up
      rw [hl] at hu h1
      exact ⟨h1 y (by simp), hu.2⟩
  have h5 : x.flat.2.2.1 ≤ x.flat.2.1 - 1 := by
    rw [h3]; exact (ack_low h.up h.most h.next.1).2
  have := room _ _ _ h4 h.most h5
  have e : x.flat.2.2.2.length = x.ks.length := by simp [AV.flat]
  omega

set_option maxRecDepth 100000 in
set_option maxHeartbeats 4000000 in
theorem takes_any {n base g : Nat} {w : World} {la : Option Addr} {lc : Nat} {L : List CV} {A : Nat → AV} {tv : Value} {T : List P3} {bv : Value} {B : List P3} {rb : Nat → Nat} {R : Nat → List Int} {ctr : Int}
    (h : OS base g w la lc L A tv T bv B rb R ctr) (hp : OP n L A T B R ctr) (hn : n ≤ 200) (k q : Nat) (hk : k < 4) (hq : 1 ≤ q) (rep : Int) (hD : rowF (R k) (q : Int) = rep) (hm : rep ≠ 0) (hbase : base ≤ w.heap.size) :
    Calls Try.prog 33 #[.pointer (some ⟨g, 0, none⟩), .agg #[.int .i64 ((k : Int) + 1), .int .i64 (q : Int), .int .i64 rep]] w fun e w' => e = .returned (.bool true) ∧ (∃ A' R', OS base g w' la lc L A' tv T bv B rb R' ctr ∧ OP n L A' T B R' ctr) ∧ Below base w w' := by
  have hlen : ∀ i, i < 8 → (R i).length = 250 := fun i hi => (h.rows i hi).1.1
  obtain ⟨hq2, a2, ht, hF, hO⟩ := hp.take hn hlen k hk (q : Int) rep (by omega) hD hm
  have hci := (hp.ci k hk).ask
  obtain ⟨F, hFe⟩ : ∃ F, F = rowF (R (4 + k)) (q : Int) := ⟨_, rfl⟩
  have hFc : (R (4 + k)).getD q 0 = F := by rw [hFe]; unfold rowF; rw [if_pos (by omega)]; simp
  rw [← hFe] at ht hF
  obtain ⟨W, hW⟩ : ∃ W, W = w.alloc (.cells #[.int .i64 ((k : Int) + 1), .int .i64 (q : Int), .int .i64 rep] 74) := ⟨_, rfl⟩
  have hb0 : Below w.heap.size w W := by rw [hW]; exact below_lit w _
  have h0 := h.below hb0
  have hX : W.heap[w.heap.size]? = some (.cells #[.int .i64 ((k : Int) + 1), .int .i64 (q : Int), .int .i64 rep] 74 (0, 0)) := by rw [hW]; exact heap_alloc_new w _
  obtain ⟨X, hXe⟩ : ∃ X, X = w.heap.size := ⟨_, rfl⟩
  rw [← hXe] at hX
  have hXlt : X < W.heap.size := (Array.getElem?_eq_some_iff.1 hX).1
  have x0 : W.cell? ⟨X, 0, none⟩ = some (.int .i64 ((k : Int) + 1)) := cell_of_row _ X 0 _ 74 (0, 0) hX
  have x1 : W.cell? ⟨X, 1, none⟩ = some (.int .i64 (q : Int)) := cell_of_row _ X 1 _ 74 (0, 0) hX
  have u2 : W.cell? ⟨X, 2, none⟩ = some (.int .i64 rep) := cell_of_row _ X 2 _ 74 (0, 0) hX
  have y0 := h0.blk.a0 k hk
  have y1 := h0.blk.a1 k hk
  have y2 := h0.blk.a2 k hk
  have y3 := h0.blk.a3 k hk
  have glt := h0.blk.lt
  have k0 : (0 : Int) ≤ (k : Int) := by omega
  have k4 : (k : Int) < 4 := by omega
  have hcall : ∀ w', Below W.heap.size W w' → Calls Try.prog 13 #[.agg #[.int .i64 (A k).id, .int .i64 (A k).next, .int .i64 (A k).acked, .slice (A k).a (A k).ks.length (A k).c], .int .i64 (q : Int)] w' fun e w2 => ∃ x2 : AV, e = .returned (.tuple #[.agg #[.int .i64 x2.id, .int .i64 x2.next, .int .i64 x2.acked, .slice x2.a x2.ks.length x2.c], .bool (decide (F = 0)), .int .i64 0]) ∧ Hid (x2.flat = a2) ∧ Hid (KAt w2 w'.heap.size x2.a x2.ks) ∧ Hid (Below w'.heap.size w' w2) ∧ Hid (Below W.heap.size W w2) ∧ w2.cell? ⟨g, 1 + k * 4, none⟩ = some (.int .i64 (A k).id) ∧ w2.cell? ⟨g, 1 + k * 4 + 1, none⟩ = some (.int .i64 (A k).next) ∧ w2.cell? ⟨g, 1 + k * 4 + 2, none⟩ = some (.int .i64 (A k).acked) ∧ w2.cell? ⟨g, 1 + k * 4 + 3, none⟩ = some (.slice (A k).a (A k).ks.length (A k).c) ∧ w2.cell? ⟨X, 1, none⟩ = some (.int .i64 (q : Int)) := by
    intro w' hb
    refine (take_v (A k) q ht hci.next (ks_short hci) w' ((h0.wt k hk).below hb)).mono ?_
    rintro e w2 ⟨x2, rfl, e1, e2, e3⟩
    have e4 := bnext hb e3
    have hb2 := h0.blk.kp (Kp.of_below (S := fun _ => False) e4) fun h => h
    refine ⟨x2, rfl, hid e1, hid e2, hid e3, hid e4, hb2.a0 k hk, hb2.a1 k hk, hb2.a2 k hk, hb2.a3 k hk, ?_⟩
    exact (e4.cell (p := ⟨X, 1, none⟩) hXlt).trans x1
  have c1 := hcall W.drew (drew_below W)
  have c2 : Calls Try.prog 13 #[.agg #[.int .i64 (A k).id, .int .i64 (A k).next, .int .i64 (A k).acked, .slice (A k).a (A k).ks.length (A k).c], .int .i64 (q : Int)] (W.alloc (.cells #[.int .i64 0, .int .i64 0, .int .i64 0, .slice none 0 0] 41)).drew fun e w2 => ∃ x2 : AV, e = .returned (.tuple #[.agg #[.int .i64 x2.id, .int .i64 x2.next, .int .i64 x2.acked, .slice x2.a x2.ks.length x2.c], .bool (decide (F = 0)), .int .i64 0]) ∧ Hid (x2.flat = a2) ∧ Hid (KAt w2 (W.heap.size + 1) x2.a x2.ks) ∧ Hid (ABlk w2 W.heap.size (.int .i64 0) (.int .i64 0) (.int .i64 0) (.slice none 0 0)) ∧ Hid (Below W.heap.size W w2) ∧ w2.cell? ⟨g, 1 + k * 4, none⟩ = some (.int .i64 (A k).id) ∧ w2.cell? ⟨g, 1 + k * 4 + 1, none⟩ = some (.int .i64 (A k).next) ∧ w2.cell? ⟨g, 1 + k * 4 + 2, none⟩ = some (.int .i64 (A k).acked) ∧ w2.cell? ⟨g, 1 + k * 4 + 3, none⟩ = some (.slice (A k).a (A k).ks.length (A k).c) ∧ w2.cell? ⟨X, 1, none⟩ = some (.int .i64 (q : Int)) ∧
      w2.cell? ⟨W.heap.size, 0, none⟩ = some (.int .i64 0) ∧ w2.cell? ⟨W.heap.size, 1, none⟩ = some (.int .i64 0) ∧ w2.cell? ⟨W.heap.size, 2, none⟩ = some (.int .i64 0) ∧ w2.cell? ⟨W.heap.size, 3, none⟩ = some (.slice none 0 0) ∧ (∀ j, w2.frozen? ⟨W.heap.size, j, none⟩ = false) := by
    refine (hcall (W.alloc (.cells #[.int .i64 0, .int .i64 0, .int .i64 0, .slice none 0 0] 41)).drew (below_lit W _).drew).mono ?_
    rintro e w2 ⟨x2, rfl, e1, e2, e3, e4, e5, e6, e7, e8, e9⟩
    have P : ABlk w2 W.heap.size (.int .i64 0) (.int .i64 0) (.int .i64 0) (.slice none 0 0) := (ABlk.new W (.int .i64 0) (.int .i64 0) (.int .i64 0) (.slice none 0 0)).below (w' := w2) (bnext (drew_below _) e3.out)
    have e2' : KAt w2 (W.heap.size + 1) x2.a x2.ks := e2.out.le (by simp)
    exact ⟨x2, rfl, e1, hid e2', hid P, e4, e5, e6, e7, e8, e9, P.cell0, P.cell1, P.cell2, P.cell3, P.free⟩
  replace y3 : W.cell? ⟨g, 1 + k * 4 + 3, none⟩ = some (.slice (A k).a (A k).ks.length (A k).c) := y3
  have n0 := World.new_ne W _ y0
  have n1 := World.new_ne W _ y1
  have n2 := World.new_ne W _ y2
  have n3 := World.new_ne W _ y3
  have n4 := World.new_ne W _ x1
  replace h := hid h
  replace hp := hid hp
  replace hO := hid hO
  replace h0 := hid h0
  replace hb0 := hid hb0
  replace hF := hid hF
  replace hFe := hid hFe
  replace hD := hid hD
  replace hX := hid hX
  replace ht := hid ht
  clear hcall
  go_enter Try.func33, Try.ntmps33
  go_upto_region 2 with fail
  rw [← hXe, ← hW]
  replace hW := hid hW
  replace hXe := hid hXe
  go_cut [6, 7, 8] (fun s6 s7 s8 wx => ∃ (g6 : Nat) (x2 : AV), s6 = .pointer (some ⟨g6, 0, none⟩) ∧ s7 = .bool (decide (F = 0)) ∧ s8 = .int .i64 0 ∧ Hid (x2.flat = a2) ∧ Hid (W.heap.size ≤ g6) ∧ Hid (ABlk wx g6 (.int .i64 x2.id) (.int .i64 x2.next) (.int .i64 x2.acked) (.slice x2.a x2.ks.length x2.c)) ∧ Hid (KAt wx W.heap.size x2.a x2.ks) ∧ Hid (Below W.heap.size W wx))
  case first =>
    go_region_held3 (fun w2 : World => w2.cell? ⟨g, 1 + k * 4, none⟩ = some (.int .i64 (A k).id) ∧ w2.cell? ⟨g, 1 + k * 4 + 1, none⟩ = some (.int .i64 (A k).next) ∧ w2.cell? ⟨g, 1 + k * 4 + 2, none⟩ = some (.int .i64 (A k).acked) ∧ w2.cell? ⟨g, 1 + k * 4 + 3, none⟩ = some (.slice (A k).a (A k).ks.length (A k).c) ∧ w2.cell? ⟨X, 1, none⟩ = some (.int .i64 (q : Int))) (go_keep) (first
      | (go_at_call 13; refine c1.mono ?_; rintro e w2 ⟨x2, rfl, e1, e2, e3, e4, e5, e6, e7, e8, e9⟩)
      | (go_at_call 13; refine c2.mono ?_; rintro e w2 ⟨x2, rfl, e1, e2, e3, e4, e5, e6, e7, e8, e9, f0, f1, f2, f3, f4⟩))
    · have b2 := below_lit w2 (.cells #[.int .i64 x2.id, .int .i64 x2.next, .int .i64 x2.acked, .slice x2.a x2.ks.length x2.c] 41)
      have P2 := ABlk.new w2 (.int .i64 x2.id) (.int .i64 x2.next) (.int .i64 x2.acked) (.slice x2.a x2.ks.length x2.c)
      replace P2 := hid P2
      replace b2 := hid b2
      go_wp2_with fail
      go_meet
      exact ⟨w2.heap.size, x2, rfl, rfl, rfl, e1, hid e4.out.size, P2, hid ((e2.out.le (by simp)).below b2.out), hid (bnext e4.out b2.out)⟩
    · have P2 := hid (e3.out.set (.int .i64 x2.id) (.int .i64 x2.next) (.int .i64 x2.acked) (.slice x2.a x2.ks.length x2.c))
      have B2 := hid (below_set4 e4.out W.heap.size (Nat.le_refl _) (.int .i64 x2.id) (.int .i64 x2.next) (.int .i64 x2.acked) (.slice x2.a x2.ks.length x2.c))
      have K2 : Kp (fun j => j = W.heap.size) w2 ((((w2.setCell ⟨W.heap.size, 0, none⟩ (.int .i64 x2.id)).setCell ⟨W.heap.size, 1, none⟩ (.int .i64 x2.next)).setCell ⟨W.heap.size, 2, none⟩ (.int .i64 x2.acked)).setCell ⟨W.heap.size, 3, none⟩ (.slice x2.a x2.ks.length x2.c)) :=
        ((((Kp.refl (fun j => j = W.heap.size) w2).setCell (p := ⟨W.heap.size, 0, none⟩) rfl _).setCell (p := ⟨W.heap.size, 1, none⟩) rfl _).setCell (p := ⟨W.heap.size, 2, none⟩) rfl _).setCell (p := ⟨W.heap.size, 3, none⟩) rfl _
      replace K2 := hid ((e2.out.kp K2 (fun j e => by omega)).le (lo' := W.heap.size) (by omega))
      go_wp2_with fail
      go_meet
      exact ⟨W.heap.size, x2, rfl, rfl, rfl, e1, hid (Nat.le_refl _), P2, K2, B2⟩
  case rest =>
    obtain ⟨g6, x2, rfl, rfl, rfl, e1, hg6, P6, K6, B6⟩ := hcut
    clear n0 n1 n2 n3 n4 c1 c2 y0 y1 y2 y3 x0
    have h6 := h0.out.below B6.out
    have cF : wc.cell? ⟨g, 23 + k, none⟩ = some (.slice (some ⟨rb (4 + k), 0, none⟩) 250 250) := h6.blk.f k hk
    have cI := (h6.rows (4 + k) (by omega)).1.cell q (by omega)
    rw [hFc] at cI
    have z1 : wc.cell? ⟨X, 1, none⟩ = some (.int .i64 (q : Int)) := (B6.out.cell (p := ⟨X, 1, none⟩) hXlt).trans x1
    have z2 : wc.cell? ⟨X, 2, none⟩ = some (.int .i64 rep) := (B6.out.cell (p := ⟨X, 2, none⟩) hXlt).trans u2
    have hqi : (0 : Int) ≤ (q : Int) := by omega
    have hq5 : (q : Int) < 250 := by omega
    have hXg : X ≠ g := fun e => by rw [hXe.out] at e; have := h.out.blk.lt; omega
    have hp8 := hO.out x2 e1.out
    rw [show ((q : Int)).toNat = q by omega] at hp8
    replace hp8 := hid hp8
    replace hFc := hid hFc
    replace hm := hid hm
    replace h6 := hid h6
    clear hlen
    by_cases hF0 : F = 0
    · subst hF0
      go_wp2_with fail
      go_quiet (fail)
      have bd : Below wc.heap.size wc (wc.drewN nq) := below_drewN (Below.refl _ _) nq
      generalize wc.drewN nq = wd at bd ⊢
      have B7 := bnext B6.out bd
      have h6d := h0.out.below B7
      have P7 := P6.out.below bd
      have p0 := P7.cell0
      have p1 := P7.cell1
      have p2 := P7.cell2
      have p3 := P7.cell3
      have q0 := h6d.blk.a0 k hk
      have q1 := h6d.blk.a1 k hk
      have q2 := h6d.blk.a2 k hk
      have q3 : wd.cell? ⟨g, 1 + k * 4 + 3, none⟩ = some (.slice (A k).a (A k).ks.length (A k).c) := h6d.blk.a3 k hk
      have q4 := h6d.blk.free
      have h7 := h6d.setA k hk x2 (K6.out.below bd) (fun j hj => (h0.out.slt j hj).2)
      obtain ⟨W7, hW7⟩ : ∃ W7, W7 = ((((wd.setCell ⟨g, 1 + k * 4, none⟩ (.int .i64 x2.id)).setCell ⟨g, 1 + k * 4 + 1, none⟩ (.int .i64 x2.next)).setCell ⟨g, 1 + k * 4 + 2, none⟩ (.int .i64 x2.acked)).setCell ⟨g, 1 + k * 4 + 3, none⟩ (.slice x2.a x2.ks.length x2.c)).drew := ⟨_, rfl⟩
      have h7' : OS base g W7 la lc L (upd A k x2) tv T bv B rb R ctr := by rw [hW7]; exact h7.below (drew_below _)
      clear h7
      have hk7 : Kp (fun j => j = g) wd W7 := by
        rw [hW7]
        exact (((((Kp.refl (fun j => j = g) wd).setCell (p := ⟨g, 1 + k * 4, none⟩) rfl _).setCell (p := ⟨g, 1 + k * 4 + 1, none⟩) rfl _).setCell (p := ⟨g, 1 + k * 4 + 2, none⟩) rfl _).setCell (p := ⟨g, 1 + k * 4 + 3, none⟩) rfl _).then (drew_below _)
      have r1 : W7.cell? ⟨g, 23 + k, none⟩ = some (.slice (some ⟨rb (4 + k), 0, none⟩) 250 250) := h7'.blk.f k hk
      have r2 := (h7'.rows (4 + k) (by omega)).1.cell q (by omega)
      rw [hFc.out] at r2
      have r3 := (h7'.rows (4 + k) (by omega)).1.free q
      have zd1 : wd.cell? ⟨X, 1, none⟩ = some (.int .i64 (q : Int)) := (B7.cell (p := ⟨X, 1, none⟩) hXlt).trans x1
      have zd2 : wd.cell? ⟨X, 2, none⟩ = some (.int .i64 rep) := (B7.cell (p := ⟨X, 2, none⟩) hXlt).trans u2
      have r4 : W7.cell? ⟨X, 1, none⟩ = some (.int .i64 (q : Int)) := by
        rw [World.cell?_of_block (w := wd) (a := ⟨X, 1, none⟩) (hk7.block X (World.block_lt_of_cell? wd _ zd1) hXg)]; exact zd1
      have r5 : W7.cell? ⟨X, 2, none⟩ = some (.int .i64 rep) := by
        rw [World.cell?_of_block (w := wd) (a := ⟨X, 2, none⟩) (hk7.block X (World.block_lt_of_cell? wd _ zd2) hXg)]; exact zd2
      have h8 := (h7'.setR (4 + k) (by omega) q rep).below (drew_below _)
      have hB8 : Below base w (W7.setCell ⟨rb (4 + k), q, none⟩ (.int .i64 rep)).drew := by
        have hb1 : Kp (Sx g tv bv rb) w wd := (Kp.of_below hb0.out).trans (Kp.of_below B7)
        have hb2 : Kp (Sx g tv bv rb) w W7 := hb1.trans (hk7.mono fun j _ e => .inl e)
        have hb3 : Kp (Sx g tv bv rb) w (W7.setCell ⟨rb (4 + k), q, none⟩ (.int .i64 rep)).drew := (hb2.trans ((kp_set W7 (rb (4 + k)) q (.int .i64 rep)).mono fun j _ e => .inr (.inr (.inr ⟨4 + k, by omega, e⟩)))).then (drew_below _)
        exact hb3.below (fun j hj => (h.out.slt j hj).1) hbase
      replace h8 := hid h8
      replace hB8 := hid hB8
      replace h7' := hid h7'
      replace hk7 := hid hk7
      replace h6d := hid h6d
      replace P7 := hid P7
      go_wp2_with fail
      go_region
      rw [← hW7]
      replace hW7 := hid hW7
      go_wp2_with fail
      go_region
      go_wp2
      go_ret
      exact ⟨rfl, ⟨_, _, h8.out, hp8.out⟩, hB8.out⟩
    · have hFr := hF.out hF0
      subst hFr
      have d1 : decide (F = 0) = false := by simpa using hF0
      have d2 : (F == 0) = false := by simpa using hF0
      replace hF0 := hid hF0
      go_wp2_with fail
      go_quiet (fail)
      have bd : Below wc.heap.size wc (wc.drewN nq) := below_drewN (Below.refl _ _) nq
      generalize wc.drewN nq = wd at bd ⊢
      have B7 := bnext B6.out bd
      have h6d := h0.out.below B7
      have P7 := P6.out.below bd
      have p0 := P7.cell0
      have p1 := P7.cell1
      have p2 := P7.cell2
      have p3 := P7.cell3
      have q0 := h6d.blk.a0 k hk
      have q1 := h6d.blk.a1 k hk
      have q2 := h6d.blk.a2 k hk
      have q3 : wd.cell? ⟨g, 1 + k * 4 + 3, none⟩ = some (.slice (A k).a (A k).ks.length (A k).c) := h6d.blk.a3 k hk
      have q4 := h6d.blk.free
      have h7 := h6d.setA k hk x2 (K6.out.below bd) (fun j hj => (h0.out.slt j hj).2)
      obtain ⟨W7, hW7⟩ : ∃ W7, W7 = ((((wd.setCell ⟨g, 1 + k * 4, none⟩ (.int .i64 x2.id)).setCell ⟨g, 1 + k * 4 + 1, none⟩ (.int .i64 x2.next)).setCell ⟨g, 1 + k * 4 + 2, none⟩ (.int .i64 x2.acked)).setCell ⟨g, 1 + k * 4 + 3, none⟩ (.slice x2.a x2.ks.length x2.c)).drew := ⟨_, rfl⟩
      have h7' : OS base g W7 la lc L (upd A k x2) tv T bv B rb R ctr := by rw [hW7]; exact h7.below (drew_below _)
      clear h7
      have hk7 : Kp (fun j => j = g) wd W7 := by
        rw [hW7]
        exact (((((Kp.refl (fun j => j = g) wd).setCell (p := ⟨g, 1 + k * 4, none⟩) rfl _).setCell (p := ⟨g, 1 + k * 4 + 1, none⟩) rfl _).setCell (p := ⟨g, 1 + k * 4 + 2, none⟩) rfl _).setCell (p := ⟨g, 1 + k * 4 + 3, none⟩) rfl _).then (drew_below _)
      have r1 : W7.cell? ⟨g, 23 + k, none⟩ = some (.slice (some ⟨rb (4 + k), 0, none⟩) 250 250) := h7'.blk.f k hk
      have r2 := (h7'.rows (4 + k) (by omega)).1.cell q (by omega)
      rw [hFc.out] at r2
      have r3 := (h7'.rows (4 + k) (by omega)).1.free q
      have zd1 : wd.cell? ⟨X, 1, none⟩ = some (.int .i64 (q : Int)) := (B7.cell (p := ⟨X, 1, none⟩) hXlt).trans x1
      have zd2 : wd.cell? ⟨X, 2, none⟩ = some (.int .i64 F) := (B7.cell (p := ⟨X, 2, none⟩) hXlt).trans u2
      have r4 : W7.cell? ⟨X, 1, none⟩ = some (.int .i64 (q : Int)) := by
        rw [World.cell?_of_block (w := wd) (a := ⟨X, 1, none⟩) (hk7.block X (World.block_lt_of_cell? wd _ zd1) hXg)]; exact zd1
      have r5 : W7.cell? ⟨X, 2, none⟩ = some (.int .i64 F) := by
        rw [World.cell?_of_block (w := wd) (a := ⟨X, 2, none⟩) (hk7.block X (World.block_lt_of_cell? wd _ zd2) hXg)]; exact zd2
      have h8 := (h7'.setR (4 + k) (by omega) q F).below (drew_below _)
      have hB8 : Below base w (W7.setCell ⟨rb (4 + k), q, none⟩ (.int .i64 F)).drew := by
        have hb1 : Kp (Sx g tv bv rb) w wd := (Kp.of_below hb0.out).trans (Kp.of_below B7)
        have hb2 : Kp (Sx g tv bv rb) w W7 := hb1.trans (hk7.mono fun j _ e => .inl e)
        have hb3 : Kp (Sx g tv bv rb) w (W7.setCell ⟨rb (4 + k), q, none⟩ (.int .i64 F)).drew := (hb2.trans ((kp_set W7 (rb (4 + k)) q (.int .i64 F)).mono fun j _ e => .inr (.inr (.inr ⟨4 + k, by omega, e⟩)))).then (drew_below _)
        exact hb3.below (fun j hj => (h.out.slt j hj).1) hbase
      replace h8 := hid h8
      replace hB8 := hid hB8
      replace h7' := hid h7'
      replace hk7 := hid hk7
      replace h6d := hid h6d
      replace P7 := hid P7
      go_wp2_with fail
      go_region
      rw [← hW7]
      replace hW7 := hid hW7
      go_wp2_with fail
      go_region
      go_wp2
      go_ret
      exact ⟨rfl, ⟨_, _, h8.out, hp8.out⟩, hB8.out⟩

end Go.Proofs.Ythjggjjocfbjcaa
