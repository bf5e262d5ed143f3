/- Calls of several journals over one disk. -/
import Derived.Test.YtcbgnodmamcmkaaNumP
import Derived.Test.YtcbgnodmamcmkaaSnapJ
namespace Go.Proofs.Ytcbgnodmamcmkaa
open Go.RowKit

/-- A journal in memory, its disk apart. -/
structure JW (base : Nat) (w : World) (g p : Nat) (x : Dx) (l s f : Nat) (b : Bool) : Prop where
  blk : JBlk w g (some ⟨p, 0, none⟩) l s f b
  own : base ≤ g
  nt : ¬ Turn p x g
  nr : ¬ Reads x g
  big : l ≤ 4611686018427387904

theorem JW.keep {base : Nat} {w w' : World} {g p : Nat} {x x' : Dx} {l s f : Nat} {b : Bool} {S : Nat → Prop} (h : JW base w g p x l s f b) (hg : Grow w p x x') (hk : Kp S w w') (hs : ¬ S g) : JW base w' g p x' l s f b :=
  ⟨h.blk.kp hk hs, h.own, fun e => (hg.1 g e).elim h.nt (fun e => by have := h.blk.lt; omega), fun e => (hg.2 g e).elim h.nr (fun e => by have := h.blk.lt; omega), h.big⟩
theorem JW.turned {base : Nat} {w w' : World} {g p : Nat} {x x' : Dx} {l s f : Nat} {b : Bool} (h : JW base w g p x l s f b) (hg : Grow w p x x') (hk : Kp (Turn p x) w w') : JW base w' g p x' l s f b := h.keep hg hk h.nt
theorem JW.other {base : Nat} {w w' : World} {g g' p : Nat} {x x' : Dx} {l s f : Nat} {b : Bool} (h : JW base w g p x l s f b) (hg : Grow w p x x') (hk : Kp (fun k => Turn p x k ∨ k = g') w w') (hne : g ≠ g') : JW base w' g p x' l s f b := h.keep hg hk (fun e => e.elim h.nt hne)
theorem JW.below {base : Nat} {w w' : World} {g p : Nat} {x : Dx} {l s f : Nat} {b : Bool} (h : JW base w g p x l s f b) (hb : Below w.heap.size w w') : JW base w' g p x l s f b := ⟨h.blk.below hb, h.own, h.nt, h.nr, h.big⟩
theorem JW.is {base : Nat} {w : World} {g p : Nat} {x : Dx} {l s f : Nat} {b : Bool} {d : Dsk} (h : JW base w g p x l s f b) (hs : Sole base w p x d) : JIs base w g p x ⟨d, l, s, f, b⟩ := ⟨h.blk, hs, h.big, h.nt, h.nr⟩
theorem JIs.w {base : Nat} {w : World} {g p : Nat} {x : Dx} {j : Jr} (h : JIs base w g p x j) (hg : base ≤ g) : JW base w g p x j.l j.s j.f j.b := ⟨h.blk, hg, h.sepT, h.sepR, h.big⟩

/-- What a call of a journal leaves. -/
structure JN (base : Nat) (w w' : World) (g p : Nat) (x x' : Dx) (j : Jr) : Prop where
  disk : Sole base w' p x' j.d
  jw : JW base w' g p x' j.l j.s j.f j.b
  grow : Grow w p x x'
  kp : Kp (fun k => Turn p x k ∨ k = g) w w'
  bel : Below base w w'

theorem JNow.jn {base : Nat} {w w' : World} {g p : Nat} {x : Dx} {d : Dsk} {j : Jr} (h : JNow base w w' g p x j) (hs : Sole base w p x d) (hg : base ≤ g) (hbase : base ≤ w.heap.size) : ∃ x', JN base w w' g p x x' j := by
  obtain ⟨x', h1, h2, h3⟩ := h
  exact ⟨x', h1.disk, h1.w hg, h2, h3, h3.below (fun k e => e.elim (hs.turn k) (fun e => e ▸ hg)) hbase⟩

theorem append_w (base g p : Nat) (x : Dx) (d : Dsk) (l s f : Nat) (b : Bool) (kind : UInt8) (a : Option Addr) (len cap : Nat) (body : List UInt8) (j' : Jr) (N E : Int) (w : World) (hj : JW base w g p x l s f b) (hs : Sole base w p x d) (hbase : base ≤ w.heap.size) (hn : d.ops.length ≤ 1000000) (hl : body.length = len) (hat : At w a body)
    (hE : (⟨d, l, s, f, b⟩ : Jr).apE kind body = E) (hN : ((⟨d, l, s, f, b⟩ : Jr).apN kind body : Int) = N) (hJ : (⟨d, l, s, f, b⟩ : Jr).ap kind body = j') :
    Calls Try.prog 13 #[.pointer (some ⟨g, 0, none⟩), .int .u8 (kind.toNat : Int), .slice a len cap] w fun e w' => e = .returned (.tuple #[.int .i64 N, .int .i64 E]) ∧ ∃ x', JN base w w' g p x x' j' := by
  subst hE; subst hN; subst hJ
  refine (append_j base g p x ⟨d, l, s, f, b⟩ kind a len cap body w (hj.is hs) hbase hn hl hat).mono ?_
  rintro e w' ⟨rfl, h⟩
  exact ⟨rfl, h.jn hs hj.own hbase⟩
theorem snapshot_w (base g p : Nat) (x : Dx) (d : Dsk) (l s f : Nat) (b : Bool) (a : Option Addr) (len cap : Nat) (body : List UInt8) (j' : Jr) (E : Int) (w : World) (hj : JW base w g p x l s f b) (hs : Sole base w p x d) (hbase : base ≤ w.heap.size) (hn : d.ops.length + 6 ≤ 1000000) (hl : body.length = len) (hat : At w a body)
    (hE : (⟨d, l, s, f, b⟩ : Jr).snE body = E) (hJ : (⟨d, l, s, f, b⟩ : Jr).sn body = j') :
    Calls Try.prog 14 #[.pointer (some ⟨g, 0, none⟩), .slice a len cap] w fun e w' => e = .returned (.int .i64 E) ∧ ∃ x', JN base w w' g p x x' j' := by
  subst hE; subst hJ
  refine (snapshot_j base g p x ⟨d, l, s, f, b⟩ a len cap body w (hj.is hs) hbase hn hl hat).mono ?_
  rintro e w' ⟨rfl, h⟩
  exact ⟨rfl, h.jn hs hj.own hbase⟩
theorem sync_w (base g p : Nat) (x : Dx) (d : Dsk) (l s f : Nat) (b : Bool) (j' : Jr) (E : Int) (w : World) (hj : JW base w g p x l s f b) (hs : Sole base w p x d) (hbase : base ≤ w.heap.size) (hn : d.ops.length ≤ 1000000)
    (hE : (⟨d, l, s, f, b⟩ : Jr).syE = E) (hJ : (⟨d, l, s, f, b⟩ : Jr).sy = j') :
    Calls Try.prog 15 #[.pointer (some ⟨g, 0, none⟩)] w fun e w' => e = .returned (.int .i64 E) ∧ ∃ x', JN base w w' g p x x' j' := by
  subst hE; subst hJ
  refine (sync_j base g p x ⟨d, l, s, f, b⟩ w (hj.is hs) hbase hn).mono ?_
  rintro e w' ⟨rfl, h⟩
  exact ⟨rfl, h.jn hs hj.own hbase⟩

/-- What a journal refuses. -/
theorem ap_state (d : Dsk) (l s f : Nat) (body : List UInt8) : (⟨d, l, s, f, false⟩ : Jr).apE 255 body = 2 ∧ ((⟨d, l, s, f, false⟩ : Jr).apN 255 body : Int) = 0 ∧ (⟨d, l, s, f, false⟩ : Jr).ap 255 body = ⟨d, l, s, f, false⟩ := by
  have hE : (⟨d, l, s, f, false⟩ : Jr).apE 255 body = 2 := by
    unfold Jr.apE
    rw [if_neg Bool.false_ne_true, if_pos rfl]
  refine ⟨hE, by unfold Jr.apN; rw [hE]; rfl, ?_⟩
  unfold Jr.ap
  rw [if_pos (by unfold Jr.apQ; simp)]
theorem ap_long (d : Dsk) (l s f : Nat) (k : UInt8) (body : List UInt8) (hk : k ≠ 255) (hl : l < 4611686018427387904) (hb : 65536 < body.length) : (⟨d, l, s, f, false⟩ : Jr).apE k body = 3 ∧ ((⟨d, l, s, f, false⟩ : Jr).apN k body : Int) = 0 ∧ (⟨d, l, s, f, false⟩ : Jr).ap k body = ⟨d, l, s, f, false⟩ := by
  have hE : (⟨d, l, s, f, false⟩ : Jr).apE k body = 3 := by
    unfold Jr.apE
    rw [if_neg Bool.false_ne_true, if_neg hk, if_neg (by show ¬ _ < l + 1; omega), if_pos hb]
  refine ⟨hE, by unfold Jr.apN; rw [hE]; rfl, ?_⟩
  unfold Jr.ap
  rw [if_pos (by unfold Jr.apQ; simp [hb])]
theorem ap_broken (d : Dsk) (l s f : Nat) (k : UInt8) (body : List UInt8) : (⟨d, l, s, f, true⟩ : Jr).apE k body = 4 ∧ ((⟨d, l, s, f, true⟩ : Jr).apN k body : Int) = 0 ∧ (⟨d, l, s, f, true⟩ : Jr).ap k body = ⟨d, l, s, f, true⟩ := by
  have hE : (⟨d, l, s, f, true⟩ : Jr).apE k body = 4 := by
    unfold Jr.apE
    rw [if_pos rfl]
  refine ⟨hE, by unfold Jr.apN; rw [hE]; rfl, ?_⟩
  unfold Jr.ap
  rw [if_pos (by unfold Jr.apQ; simp)]
theorem sn_long (d : Dsk) (l s f : Nat) (body : List UInt8) (hb : 1048559 < body.length) : (⟨d, l, s, f, false⟩ : Jr).snE body = 3 ∧ (⟨d, l, s, f, false⟩ : Jr).sn body = ⟨d, l, s, f, false⟩ := by
  refine ⟨by unfold Jr.snE; rw [if_neg Bool.false_ne_true, if_pos hb], ?_⟩
  unfold Jr.sn
  rw [if_pos (by unfold Jr.snQ; simp [hb])]
theorem sn_broken (d : Dsk) (l s f : Nat) (body : List UInt8) : (⟨d, l, s, f, true⟩ : Jr).snE body = 4 ∧ (⟨d, l, s, f, true⟩ : Jr).sn body = ⟨d, l, s, f, true⟩ := by
  refine ⟨by unfold Jr.snE; rw [if_pos rfl], ?_⟩
  unfold Jr.sn
  rw [if_pos (by unfold Jr.snQ; simp)]
/-- An append that the disk fails. -/
theorem ap_fails (d : Dsk) (l s f : Nat) (k : UInt8) (body : List UInt8) (E : Int) (hk : k ≠ 255) (hl : l < 4611686018427387904) (hb : body.length ≤ 65536) (he : d.appE 0 (entB (l + 1) k body) = E) (hE0 : E ≠ 0) :
    (⟨d, l, s, f, false⟩ : Jr).apE k body = E ∧ ((⟨d, l, s, f, false⟩ : Jr).apN k body : Int) = 0 ∧ ∃ d', (⟨d, l, s, f, false⟩ : Jr).ap k body = ⟨d', l, s, f, true⟩ ∧ d'.ops.length ≤ d.ops.length + 1 := by
  have hE : (⟨d, l, s, f, false⟩ : Jr).apE k body = E := by
    unfold Jr.apE
    rw [if_neg Bool.false_ne_true, if_neg hk, if_neg (by show ¬ _ < l + 1; omega), if_neg (by omega)]
    exact he
  refine ⟨hE, by unfold Jr.apN; rw [if_neg (by rw [hE]; exact hE0)]; rfl, _, ?_, d.appD_few 0 (entB (l + 1) k body)⟩
  unfold Jr.ap
  rw [if_neg (by unfold Jr.apQ; simp [hk]; omega), if_neg (by rw [hE]; exact hE0)]
/-- A sync that the disk fails. -/
theorem sy_fails (d : Dsk) (l s f : Nat) (E : Int) (he : d.errs = E) (hE0 : E ≠ 0) :
    (⟨d, l, s, f, false⟩ : Jr).syE = E ∧ ∃ d', (⟨d, l, s, f, false⟩ : Jr).sy = ⟨d', l, s, f, true⟩ ∧ d'.ops.length ≤ d.ops.length + 1 := by
  refine ⟨by unfold Jr.syE; rw [if_neg Bool.false_ne_true]; exact he, _, ?_, Nat.le_trans d.syncD_few (Nat.le_succ _)⟩
  unfold Jr.sy
  rw [if_neg Bool.false_ne_true, if_neg (by rw [he]; exact hE0)]
end Go.Proofs.Ytcbgnodmamcmkaa
