/- SessionOnce: all of the law's world. -/
import Derived.Test.YthjggjjocfbjcaaOnceR
namespace Go.Proofs.Ythjggjjocfbjcaa
open Go.RowKit

/-- The blocks that the law turns. -/
def Sx (g : Nat) (tv bv : Value) (rb : Nat → Nat) (k : Nat) : Prop := k = g ∨ tv.ownBlock = some k ∨ bv.ownBlock = some k ∨ ∃ i, i < 8 ∧ k = rb i

structure OS (base g : Nat) (w : World) (la : Option Addr) (lc : Nat) (L : List CV) (A : Nat → AV) (tv : Value) (T : List P3) (bv : Value) (B : List P3) (rb : Nat → Nat) (R : Nat → List Int) (ctr : Int) : Prop where
  gb : base ≤ g
  blk : WB w g (.slice la L.length lc) A tv bv rb ctr
  cl : LAt w 0 la L
  clo : LOff (Sx g tv bv rb) la L
  wt : ∀ k, k < 4 → KAt w 0 (A k).a (A k).ks
  wto : ∀ k, k < 4 → KOff (Sx g tv bv rb) (A k).a (A k).ks
  to : QR w base 71 tv T
  back : QR w base 74 bv B
  rows : ∀ i, i < 8 → IR w (rb i) (R i) ∧ base ≤ rb i
  inj : ∀ i j, i < 8 → j < 8 → rb i = rb j → i = j

section
variable {base g : Nat} {w : World} {la : Option Addr} {lc : Nat} {L : List CV} {A : Nat → AV} {tv : Value} {T : List P3} {bv : Value} {B : List P3} {rb : Nat → Nat} {R : Nat → List Int} {ctr : Int}

theorem ty_ne {w : World} {x y t u : Nat} {c d : Array Value} {f h : Nat × Nat} (h1 : w.heap[x]? = some (.cells c t f)) (h2 : w.heap[y]? = some (.cells d u h)) (hne : t ≠ u) : x ≠ y := fun e => by
  subst e
  rw [h1] at h2
  simp only [Option.some.injEq, Obj.cells.injEq] at h2
  exact hne h2.2.1

theorem OS.t_ne (h : OS base g w la lc L A tv T bv B rb R ctr) {k : Nat} (hk : tv.ownBlock = some k) : k ≠ g ∧ bv.ownBlock ≠ some k ∧ ∀ i, i < 8 → k ≠ rb i := by
  obtain ⟨_, _, c, hc⟩ := h.to.lt k hk
  refine ⟨ty_ne hc h.blk (by omega), fun e => ?_, fun i hi => ty_ne hc (h.rows i hi).1.2 (by omega)⟩
  obtain ⟨_, _, d, hd⟩ := h.back.lt k e
  exact ty_ne hc hd (by omega) rfl
theorem OS.b_ne (h : OS base g w la lc L A tv T bv B rb R ctr) {k : Nat} (hk : bv.ownBlock = some k) : k ≠ g ∧ tv.ownBlock ≠ some k ∧ ∀ i, i < 8 → k ≠ rb i := by
  obtain ⟨_, _, c, hc⟩ := h.back.lt k hk
  exact ⟨ty_ne hc h.blk (by omega), fun e => (h.t_ne e).2.1 hk, fun i hi => ty_ne hc (h.rows i hi).1.2 (by omega)⟩
theorem OS.g_ne (h : OS base g w la lc L A tv T bv B rb R ctr) (i : Nat) (hi : i < 8) : rb i ≠ g := ty_ne (h.rows i hi).1.2 h.blk (by omega)

theorem OS.slt (h : OS base g w la lc L A tv T bv B rb R ctr) : ∀ k, Sx g tv bv rb k → base ≤ k ∧ k < w.heap.size := by
  intro k hk
  rcases hk with rfl | hk | hk | ⟨i, hi, rfl⟩
  · exact ⟨h.gb, h.blk.lt⟩
  · have := h.to.lt k hk; exact ⟨this.1, this.2.1⟩
  · have := h.back.lt k hk; exact ⟨this.1, this.2.1⟩
  · exact ⟨(h.rows i hi).2, (h.rows i hi).1.lt⟩

/-- A step that turns only blocks of the law's own. -/
theorem OS.step (h : OS base g w la lc L A tv T bv B rb R ctr) {w' : World} {tv' bv' : Value} {T' B' : List P3} {R' : Nat → List Int} {ctr' : Int} (hk : Kp (Sx g tv bv rb) w w')
    (blk : WB w' g (.slice la L.length lc) A tv' bv' rb ctr') (to : QR w' base 71 tv' T') (back : QR w' base 74 bv' B') (rows : ∀ i, i < 8 → IR w' (rb i) (R' i)) (hS : ∀ k, k < w.heap.size → Sx g tv' bv' rb k → Sx g tv bv rb k) :
    OS base g w' la lc L A tv' T' bv' B' rb R' ctr' :=
  ⟨h.gb, blk, h.cl.off hk h.clo, h.clo.more h.cl hS, fun k hk4 => (h.wt k hk4).off hk (h.wto k hk4), fun k hk4 => (h.wto k hk4).more (h.wt k hk4) hS, to, back, fun i hi => ⟨rows i hi, (h.rows i hi).2⟩, h.inj⟩

theorem OS.below (h : OS base g w la lc L A tv T bv B rb R ctr) {w' : World} (hb : Below w.heap.size w w') : OS base g w' la lc L A tv T bv B rb R ctr := by
  have hk : Kp (fun _ => False) w w' := Kp.of_below hb
  exact h.step (hk.mono fun _ _ h => h.elim) (h.blk.kp hk fun h => h) (h.to.kp hk fun _ _ h => h) (h.back.kp hk fun _ _ h => h) (fun i hi => (h.rows i hi).1.kp hk fun h => h) fun _ _ h => h

theorem kp_set (w : World) (g j : Nat) (v : Value) : Kp (fun k => k = g) w (w.setCell ⟨g, j, none⟩ v) := (Kp.refl (fun k => k = g) w).setCell (p := ⟨g, j, none⟩) rfl v

theorem OS.setL (h : OS base g w la lc L A tv T bv B rb R ctr) {lo : Nat} (la' : Option Addr) (lc' n' : Nat) (L' : List CV) (hL : LAt w lo la' L') (hlo : ∀ k, Sx g tv bv rb k → k < lo) (hn : L'.length = n') :
    OS base g (w.setCell ⟨g, 0, none⟩ (.slice la' n' lc')) la' lc' L' A tv T bv B rb R ctr := by
  subst hn
  have hk := kp_set w g 0 (.slice la' L'.length lc')
  have hSk : ∀ k, k = g → Sx g tv bv rb k := fun k e => .inl e
  have hK : Kp (Sx g tv bv rb) w (w.setCell ⟨g, 0, none⟩ (.slice la' L'.length lc')) := hk.mono fun k _ e => hSk k e
  have ho := LOff.new (S := Sx g tv bv rb) hL hlo
  exact ⟨h.gb, h.blk.setL _, (hL.le (Nat.zero_le _)).off hK ho, ho, fun k hk4 => (h.wt k hk4).off hK (h.wto k hk4), h.wto, h.to.kp hk (fun k e => (h.t_ne e).1), h.back.kp hk (fun k e => (h.b_ne e).1), fun i hi => ⟨(h.rows i hi).1.kp hk (h.g_ne i hi), (h.rows i hi).2⟩, h.inj⟩

theorem OS.setA (h : OS base g w la lc L A tv T bv B rb R ctr) {lo : Nat} (k : Nat) (hk4 : k < 4) (x : AV) (hx : KAt w lo x.a x.ks) (hlo : ∀ j, Sx g tv bv rb j → j < lo) :
    OS base g ((((w.setCell ⟨g, 1 + k * 4, none⟩ (.int .i64 x.id)).setCell ⟨g, 1 + k * 4 + 1, none⟩ (.int .i64 x.next)).setCell ⟨g, 1 + k * 4 + 2, none⟩ (.int .i64 x.acked)).setCell ⟨g, 1 + k * 4 + 3, none⟩ x.wv) la lc L (upd A k x) tv T bv B rb R ctr := by
  have hk : Kp (fun j => j = g) w ((((w.setCell ⟨g, 1 + k * 4, none⟩ (.int .i64 x.id)).setCell ⟨g, 1 + k * 4 + 1, none⟩ (.int .i64 x.next)).setCell ⟨g, 1 + k * 4 + 2, none⟩ (.int .i64 x.acked)).setCell ⟨g, 1 + k * 4 + 3, none⟩ x.wv) :=
    ((((Kp.refl (fun j => j = g) w).setCell (p := ⟨g, 1 + k * 4, none⟩) rfl _).setCell (p := ⟨g, 1 + k * 4 + 1, none⟩) rfl _).setCell (p := ⟨g, 1 + k * 4 + 2, none⟩) rfl _).setCell (p := ⟨g, 1 + k * 4 + 3, none⟩) rfl _
  have hK := hk.mono (S' := Sx g tv bv rb) fun k _ e => .inl e
  have ho := KOff.new (S := Sx g tv bv rb) hx hlo
  refine ⟨h.gb, h.blk.setA k hk4 x, h.cl.off hK h.clo, h.clo, fun j hj => ?_, fun j hj => ?_, h.to.kp hk (fun k e => (h.t_ne e).1), h.back.kp hk (fun k e => (h.b_ne e).1), fun i hi => ⟨(h.rows i hi).1.kp hk (h.g_ne i hi), (h.rows i hi).2⟩, h.inj⟩
  · by_cases e : j = k
    · subst e; rw [upd_same]; exact (hx.le (Nat.zero_le _)).off hK ho
    · rw [upd_other A x e]; exact (h.wt j hj).off hK (h.wto j hj)
  · by_cases e : j = k
    · subst e; rw [upd_same]; exact ho
    · rw [upd_other A x e]; exact h.wto j hj

theorem OS.setC (h : OS base g w la lc L A tv T bv B rb R ctr) (n : Int) : OS base g (w.setCell ⟨g, 27, none⟩ (.int .i64 n)) la lc L A tv T bv B rb R n := by
  have hk := kp_set w g 27 (.int .i64 n)
  exact h.step (hk.mono fun k _ e => .inl e) (h.blk.setC n) (h.to.kp hk fun k e => (h.t_ne e).1) (h.back.kp hk fun k e => (h.b_ne e).1) (fun i hi => (h.rows i hi).1.kp hk (h.g_ne i hi)) fun _ _ h => h

theorem OS.setR (h : OS base g w la lc L A tv T bv B rb R ctr) (i : Nat) (hi : i < 8) (j : Nat) (n : Int) : OS base g (w.setCell ⟨rb i, j, none⟩ (.int .i64 n)) la lc L A tv T bv B rb (upd R i ((R i).set j n)) ctr := by
  have hk := kp_set w (rb i) j (.int .i64 n)
  refine h.step (hk.mono fun k _ e => .inr (.inr (.inr ⟨i, hi, e⟩))) (h.blk.kp hk fun e => h.g_ne i hi e.symm) (h.to.kp hk fun k e => (h.t_ne e).2.2 i hi) (h.back.kp hk fun k e => (h.b_ne e).2.2 i hi) (fun q hq => ?_) fun _ _ h => h
  by_cases e : q = i
  · subst e; rw [upd_same]; exact (h.rows q hq).1.set j n
  · rw [upd_other R _ e]; exact (h.rows q hq).1.kp hk fun e2 => e (h.inj q i hq hi e2)

/-- The packets to the server are others. -/
theorem OS.setT (h : OS base g w la lc L A tv T bv B rb R ctr) {w1 : World} {tv' : Value} {T' : List P3} (hq : QR w1 base 71 tv' T') (hk : Kp (fun k => tv.ownBlock = some k) w w1) (hv : tv'.ownBlock = tv.ownBlock ∨ tv'.ownBlock = some w.heap.size) :
    OS base g (w1.setCell ⟨g, 17, none⟩ tv') la lc L A tv' T' bv B rb R ctr := by
  have hk1 := kp_set w1 g 17 tv'
  have hg1 : w.heap.size ≤ w1.heap.size := hk.size
  have hgl := h.blk.lt
  have hb1 : WB w1 g (.slice la L.length lc) A tv bv rb ctr := h.blk.kp hk fun e => (h.t_ne e).1 rfl
  have hK : Kp (Sx g tv bv rb) w (w1.setCell ⟨g, 17, none⟩ tv') := (hk.mono (S' := Sx g tv bv rb) fun k _ e => .inr (.inl e)).trans (hk1.mono fun k _ e => .inl e)
  have ht1 : ∀ k, tv'.ownBlock = some k → ¬ k = g := fun k e e2 => by
    subst e2
    rcases hv with q | q
    · exact (h.t_ne (q ▸ e)).1 rfl
    · rw [q] at e; cases e; omega
  refine h.step hK (hb1.setT tv') (hq.kp hk1 ht1) ((h.back.kp hk fun k e e2 => (h.b_ne e).2.1 e2).kp hk1 fun k e => (h.b_ne e).1) (fun i hi => ((h.rows i hi).1.kp hk fun e => (h.t_ne e).2.2 i hi rfl).kp hk1 (h.g_ne i hi)) fun k hk2 hs => ?_
  rcases hs with e | e | e | e
  · exact .inl e
  · rcases hv with q | q
    · exact .inr (.inl (q ▸ e))
    · rw [q] at e; cases e; omega
  · exact .inr (.inr (.inl e))
  · exact .inr (.inr (.inr e))

/-- The replies on their way are others. -/
theorem OS.setB (h : OS base g w la lc L A tv T bv B rb R ctr) {w1 : World} {bv' : Value} {B' : List P3} (hq : QR w1 base 74 bv' B') (hk : Kp (fun k => bv.ownBlock = some k) w w1) (hv : bv'.ownBlock = bv.ownBlock ∨ bv'.ownBlock = some w.heap.size) :
    OS base g (w1.setCell ⟨g, 18, none⟩ bv') la lc L A tv T bv' B' rb R ctr := by
  have hk1 := kp_set w1 g 18 bv'
  have hg1 : w.heap.size ≤ w1.heap.size := hk.size
  have hgl := h.blk.lt
  have hb1 : WB w1 g (.slice la L.length lc) A tv bv rb ctr := h.blk.kp hk fun e => (h.b_ne e).1 rfl
  have hK : Kp (Sx g tv bv rb) w (w1.setCell ⟨g, 18, none⟩ bv') := (hk.mono (S' := Sx g tv bv rb) fun k _ e => .inr (.inr (.inl e))).trans (hk1.mono fun k _ e => .inl e)
  have ht1 : ∀ k, bv'.ownBlock = some k → ¬ k = g := fun k e e2 => by
    subst e2
    rcases hv with q | q
    · exact (h.b_ne (q ▸ e)).1 rfl
    · rw [q] at e; cases e; omega
  refine h.step hK (hb1.setB bv') ((h.to.kp hk fun k e e2 => (h.t_ne e).2.1 e2).kp hk1 fun k e => (h.t_ne e).1) (hq.kp hk1 ht1) (fun i hi => ((h.rows i hi).1.kp hk fun e => (h.b_ne e).2.2 i hi rfl).kp hk1 (h.g_ne i hi)) fun k hk2 hs => ?_
  rcases hs with e | e | e | e
  · exact .inl e
  · exact .inr (.inl e)
  · rcases hv with q | q
    · exact .inr (.inr (.inl (q ▸ e)))
    · rw [q] at e; cases e; omega
  · exact .inr (.inr (.inr e))
end

end Go.Proofs.Ythjggjjocfbjcaa
