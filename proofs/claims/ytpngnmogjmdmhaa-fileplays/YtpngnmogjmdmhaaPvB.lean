/- Two disks of the program and two of the document, side by side; what a call of the script does. -/
import Derived.Test.YtpngnmogjmdmhaaDoes3
namespace Go.Proofs.Ytpngnmogjmdmhaa
open Go.RowKit
set_option linter.unusedVariables false

/-- What one call of a script makes of a disk. -/
def stepD (d : Dsk) (kk f n ec tn : Int) (b : List UInt8) : Dsk :=
  if kk = 1 then d.appD f b else if kk = 2 then d.cutD f n else if kk = 3 then d.syncD else if kk = 5 then d.armD n else if kk = 6 then d.failD n ec else if kk = 7 then d.crashD n tn else d

theorem step_few (d : Dsk) (kk f n ec tn : Int) (b : List UInt8) : (stepD d kk f n ec tn b).ops.length ≤ d.ops.length + 1 := by
  unfold stepD
  split
  · exact d.appD_few f b
  split
  · exact d.cutD_few f n
  split
  · exact Nat.le_trans d.syncD_few (by omega)
  split
  · unfold Dsk.armD; split <;> (show d.ops.length ≤ _; omega)
  split
  · unfold Dsk.failD; split <;> (show d.ops.length ≤ _; omega)
  split
  · exact Nat.le_trans (d.crashD_few n tn) (by omega)
  · omega

theorem does_all (base p : Nat) (x : Dx) (T : Nat → Prop) (y : RDx) (d : Dsk) (kk on f n ec tn : Int) (ba : Option Addr) (bn bc : Nat) (b : List UInt8) (w : World) (hs : Sole base w p x d) (hbase : base ≤ w.heap.size) (hrd : RD w T y d) (hT : ∀ k, Turn p x k → T k) (hTb : ∀ k, T k → k < w.heap.size) (hn : d.ops.length ≤ 1000000) (hnb : n ≤ 9223372036854775807) (htb : tn ≤ 9223372036854775807) (hbl : b.length = bn) (hbn : bn ≤ 2000) (hfb : FA w T ba bc b) :
    Calls Try.prog 22 #[.pointer (some ⟨p, 0, none⟩), .agg (y.cells d), .agg #[.int .i64 kk, .int .i64 on, .int .i64 f, .slice ba bn bc, .int .i64 n, .int .i64 ec, .int .i64 tn]] w (DPost base w p x T (stepD d kk f n ec tn b)) := by
  unfold stepD
  by_cases h1 : kk = 1
  · subst h1; exact does_app base p x T y d on f n ec tn ba bn bc w hs hbase hrd hT hTb hn hnb htb b hbl hbn hfb
  rw [if_neg h1]
  by_cases h2 : kk = 2
  · subst h2; exact does_cut base p x T y d on f n ec tn ba bn bc w hs hbase hrd hT hTb hn hnb htb
  rw [if_neg h2]
  by_cases h3 : kk = 3
  · subst h3; exact does_sync base p x T y d on f n ec tn ba bn bc w hs hbase hrd hT hTb hn hnb htb
  rw [if_neg h3]
  by_cases h5 : kk = 5
  · subst h5; exact does_arm base p x T y d on f n ec tn ba bn bc w hs hbase hrd hT hTb hn hnb htb
  rw [if_neg h5]
  by_cases h6 : kk = 6
  · subst h6; exact does_fail base p x T y d on f n ec tn ba bn bc w hs hbase hrd hT hTb hn hnb htb
  rw [if_neg h6]
  by_cases h7 : kk = 7
  · subst h7; exact does_crash base p x T y d on f n ec tn ba bn bc w hs hbase hrd hT hTb hn hnb htb
  rw [if_neg h7]
  by_cases h4 : kk = 4
  · subst h4; exact does_read base p x T y d on f n ec tn ba bn bc w hs hbase hrd hT hTb hn hnb htb
  exact does_none base p x T y d kk on f n ec tn ba bn bc w hs hbase hrd hT hTb hn hnb htb h1 h2 h3 h4 h5 h6 h7

/-- The blocks that turn. -/
def PT (gd gl p q : Nat) (x z : Dx) : Nat → Prop := fun b => (Turn p x b ∨ Turn q z b) ∨ b = gd ∨ b = gl

/-- Both sides: the disk p with x, y and d, the other one q with z, u and e. D and L: where they stand in the law's rows. -/
structure PV (base : Nat) (W : World) (gd gl : Nat) (p q : Nat) (x z : Dx) (y u : RDx) (d e : Dsk) (m : Nat) : Prop where
  s1 : Sole base W p x d
  s2 : Sole base W q z e
  ap : Apart p x q z
  r1 : RD W (PT gd gl p q x z) y d
  r2 : RD W (PT gd gl p q x z) u e
  o1 : ∀ b, Turn p x b ∨ Reads x b → b ≠ gd ∧ b ≠ gl
  o2 : ∀ b, Turn q z b ∨ Reads z b → b ≠ gd ∧ b ≠ gl
  f1 : d.ops.length ≤ m
  f2 : e.ops.length ≤ m
  lt1 : gd < W.heap.size
  lt2 : gl < W.heap.size
  ne : gd ≠ gl

/-- The law's own rows, seen from the first (on = 0) or the second. -/
structure LR (W : World) (gd gl on : Nat) (p q : Nat) (cy cu : Array Value) : Prop where
  d1 : W.cell? ⟨gd, on, none⟩ = some (.pointer (some ⟨p, 0, none⟩))
  d2 : W.cell? ⟨gd, 1 - on, none⟩ = some (.pointer (some ⟨q, 0, none⟩))
  fz : ∀ k, W.frozen? ⟨gd, k, none⟩ = false
  l1 : W.rangeAt gl (on * 8) cy.toList
  l2 : W.rangeAt gl ((1 - on) * 8) cu.toList
  fl : ∀ k, W.frozen? ⟨gl, k, none⟩ = false
  c1 : cy.size = 8
  c2 : cu.size = 8

theorem PV.flip {base : Nat} {W : World} {gd gl p q : Nat} {x z : Dx} {y u : RDx} {d e : Dsk} {m : Nat} (h : PV base W gd gl p q x z y u d e m) : PV base W gd gl q p z x u y e d m := by
  have hP : ∀ k, PT gd gl q p z x k → PT gd gl p q x z k := fun k hk => hk.elim (fun h => .inl (h.elim .inr .inl)) .inr
  exact ⟨h.s2, h.s1, h.ap.symm, h.r2.turn (fun k hk => .inl (hP k hk)), h.r1.turn (fun k hk => .inl (hP k hk)), h.o2, h.o1, h.f2, h.f1, h.lt1, h.lt2, h.ne⟩
theorem PV.below {base : Nat} {W W' : World} {gd gl p q : Nat} {x z : Dx} {y u : RDx} {d e : Dsk} {m : Nat} (h : PV base W gd gl p q x z y u d e m) (hb : Below W.heap.size W W') : PV base W' gd gl p q x z y u d e m :=
  ⟨h.s1.below hb, h.s2.below hb, h.ap, h.r1.below hb, h.r2.below hb, h.o1, h.o2, h.f1, h.f2, Nat.lt_of_lt_of_le h.lt1 hb.size, Nat.lt_of_lt_of_le h.lt2 hb.size, h.ne⟩
theorem PV.lt {base : Nat} {W : World} {gd gl p q : Nat} {x z : Dx} {y u : RDx} {d e : Dsk} {m : Nat} (h : PV base W gd gl p q x z y u d e m) : ∀ k, PT gd gl p q x z k → k < W.heap.size := fun k hk => by
  rcases hk with (hk | hk) | hk | hk
  · exact h.s1.is.1.turn_lt k hk
  · exact h.s2.is.1.turn_lt k hk
  · rw [hk]; exact h.lt1
  · rw [hk]; exact h.lt2

/-- One disk does a step: p, x, y, d turn. Only what it turns, and the law's own row gl, has changed. -/
theorem PV.step {base : Nat} {W W' : World} {gd gl p q : Nat} {x x' z : Dx} {y y' u : RDx} {d d' e : Dsk} {m : Nat} (h : PV base W gd gl p q x z y u d e m) (hf : d'.ops.length ≤ m + 1)
    (hs : Sole base W' p x' d') (hg : Grow W p x x') (hr : RD W' (fun k => PT gd gl p q x z k ∨ Turn p x' k) y' d') (hk : Kp (fun k => Turn p x k ∨ k = gl) W W') : PV base W' gd gl p q x' z y' u d' e (m + 1) := by
  have hP : ∀ k, PT gd gl p q x' z k → PT gd gl p q x z k ∨ W.heap.size ≤ k := fun k h9 => by
    rcases h9 with (h9 | h9) | h9
    · rcases hg.1 k h9 with h8 | h8
      · exact .inl (.inl (.inl h8))
      · exact .inr h8
    · exact .inl (.inl (.inr h9))
    · exact .inl (.inr h9)
  have hkP : ∀ k, (Turn p x k ∨ k = gl) → PT gd gl p q x z k := fun k h9 => h9.elim (fun h => .inl (.inl h)) (fun h => .inr (.inr h))
  refine ⟨hs, ?_, h.ap.keep hg h.s2.is, hr.turn (fun k h9 => ?_), ?_, fun b hb => ?_, h.o2, hf, by have := h.f2; omega, Nat.lt_of_lt_of_le h.lt1 hk.size, Nat.lt_of_lt_of_le h.lt2 hk.size, h.ne⟩
  · exact h.s2.kp hk (fun k h1 h2 => h2.elim (fun h3 => ((h.ap k).1 h3).1 h1) (fun h3 => (h.o2 k (.inl h1)).2 h3)) (fun k h1 h2 => h2.elim (fun h3 => ((h.ap k).1 h3).2 h1) (fun h3 => (h.o2 k (.inr h1)).2 h3))
  · rcases h9 with (h9 | h9) | h9
    · exact .inl (.inr h9)
    · exact .inl (.inl (.inl (.inr h9)))
    · exact .inl (.inl (.inr h9))
  · have h1 := h.r2.turn (T' := fun k => PT gd gl p q x z k ∨ PT gd gl p q x' z k) (fun k h9 => h9.elim .inl (hP k))
    exact (h1.kp (hk.more (fun k e => .inl (hkP k e)))).turn (fun k h9 => .inl (.inr h9))
  · have lt1 := h.lt1
    have lt2 := h.lt2
    rcases hb with hb | hb
    · rcases hg.1 b hb with h8 | h8
      · exact h.o1 b (.inl h8)
      · exact ⟨by omega, by omega⟩
    · rcases hg.2 b hb with h8 | h8
      · exact h.o1 b (.inr h8)
      · exact ⟨by omega, by omega⟩

/-- A copy of p becomes the other one. -/
theorem PV.copied {base : Nat} {W W' : World} {gd gl p q p' : Nat} {x x' z : Dx} {y u : RDx} {d e : Dsk} {m : Nat} (h : PV base W gd gl p q x z y u d e m)
    (hs : Sole base W' p' x' d) (ht : ∀ k, Turn p' x' k → W.heap.size ≤ k) (hr : ∀ k, Reads x' k → Reads x k) (hk : Kp (fun k => k = gd ∨ k = gl) W W') : PV base W' gd gl p p' x x' y y d d m := by
  have lt1 := h.lt1
  have lt2 := h.lt2
  have hP : ∀ k, PT gd gl p p' x x' k → PT gd gl p q x z k ∨ W.heap.size ≤ k := fun k h9 => by
    rcases h9 with (h9 | h9) | h9
    · exact .inl (.inl (.inl h9))
    · exact .inr (ht k h9)
    · exact .inl (.inr h9)
  have hR : RD W' (PT gd gl p p' x x') y d := by
    have h1 := h.r1.turn (T' := fun k => PT gd gl p q x z k ∨ PT gd gl p p' x x' k) (fun k h9 => h9.elim .inl (hP k))
    exact (h1.kp (hk.more (fun k e => .inl (.inr e)))).turn (fun k h9 => .inl (.inr h9))
  refine ⟨h.s1.kp hk (fun k h1 h2 => h2.elim (h.o1 k (.inl h1)).1 (h.o1 k (.inl h1)).2) (fun k h1 h2 => h2.elim (h.o1 k (.inr h1)).1 (h.o1 k (.inr h1)).2), hs, ?_, hR, hR, h.o1, fun b hb => ?_, h.f1, h.f1, Nat.lt_of_lt_of_le lt1 hk.size, Nat.lt_of_lt_of_le lt2 hk.size, h.ne⟩
  · refine fun k => ⟨fun h1 => ⟨fun h2 => ?_, fun h2 => h.s1.is.1.sep k (hr k h2) h1⟩, fun h1 h2 => ?_⟩
    · have := ht k h2; have := h.s1.is.1.turn_lt k h1; omega
    · have := ht k h1; have := h.s1.is.1.reads_lt k h2; omega
  · rcases hb with hb | hb
    · have := ht b hb; exact ⟨by omega, by omega⟩
    · exact h.o1 b (.inr (hr b hb))

theorem range_kp {S : Nat → Prop} {w w' : World} {b o : Nat} {cs : List Value} (h : w.rangeAt b o cs) (hk : Kp S w w') (hn : ¬ S b) : w'.rangeAt b o cs := fun j v hv => by
  have h1 := h j v hv
  rw [World.cell?_of_block (hk.block b (World.block_lt_of_cell? w _ h1) hn)]; exact h1
theorem frz_kp {S : Nat → Prop} {w w' : World} {b : Nat} (hlt : b < w.heap.size) (hk : Kp S w w') (hn : ¬ S b) (h : ∀ k, w.frozen? ⟨b, k, none⟩ = false) : ∀ k, w'.frozen? ⟨b, k, none⟩ = false := fun k => by
  have := h k
  unfold World.frozen? at *
  rw [hk.block b hlt hn]; exact this
theorem stayK {S : Nat → Prop} {w w' : World} {p : Addr} {v : Value} (hk : Kp S w w') (hn : ¬ S p.block) (h : w.cell? p = some v) : w'.cell? p = some v := by
  rw [World.cell?_of_block (hk.block p.block (World.block_lt_of_cell? w p h) hn)]; exact h
theorem LR.kp {S : Nat → Prop} {w w' : World} {gd gl on p q : Nat} {cy cu : Array Value} (h : LR w gd gl on p q cy cu) (hk : Kp S w w') (h1 : ¬ S gd) (h2 : ¬ S gl) : LR w' gd gl on p q cy cu := by
  have b1 := World.block_lt_of_cell? w _ h.d1
  have b2 := World.block_lt_of_cell? w _ (h.l1 0 _ (List.getElem?_eq_getElem (by rw [Array.length_toList, h.c1]; omega)))
  exact ⟨stayK hk h1 h.d1, stayK hk h1 h.d2, frz_kp b1 hk h1 h.fz, range_kp h.l1 hk h2, range_kp h.l2 hk h2, frz_kp b2 hk h2 h.fl, h.c1, h.c2⟩
theorem LR.below {w w' : World} {gd gl on p q : Nat} {cy cu : Array Value} (h : LR w gd gl on p q cy cu) (hb : Below w.heap.size w w') : LR w' gd gl on p q cy cu := h.kp (S := fun _ => False) (Kp.of_below hb) (fun h => h) (fun h => h)
theorem LR.flip {w : World} {gd gl p q : Nat} {cy cu : Array Value} {on : Nat} (hon : on < 2) (h : LR w gd gl on p q cy cu) : LR w gd gl (1 - on) q p cu cy := by
  have e : 1 - (1 - on) = on := by omega
  exact ⟨h.d2, by rw [e]; exact h.d1, h.fz, h.l2, by rw [e]; exact h.l1, h.fl, h.c2, h.c1⟩
theorem LR.there {w : World} {gd gl on p q : Nat} {cy cu : Array Value} (h : LR w gd gl on p q cy cu) : w.there gl (on * 8) 8 ∧ w.there gl ((1 - on) * 8) 8 := by
  refine ⟨fun j hj => ⟨?_, h.fl _⟩, fun j hj => ⟨?_, h.fl _⟩⟩
  · exact h.l1.isSome j (by rw [Array.length_toList, h.c1]; exact hj)
  · exact h.l2.isSome j (by rw [Array.length_toList, h.c2]; exact hj)
theorem kp_setCells (S : Nat → Prop) (g : Nat) (hg : S g) : ∀ (vs : List Value) (o : Nat) (w : World), Kp S w (w.setCells g o vs)
  | [], o, w => Kp.refl _ _
  | v :: r, o, w => (Kp.setCell (S := S) (p := ⟨g, o, none⟩) (Kp.refl _ w) hg v).trans (kp_setCells S g hg r (o + 1) _)

end Go.Proofs.Ytpngnmogjmdmhaa
