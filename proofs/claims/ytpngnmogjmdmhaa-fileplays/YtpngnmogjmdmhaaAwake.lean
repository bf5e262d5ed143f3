/- One disk of the call's own; what awake answers. -/
import Derived.Test.YtpngnmogjmdmhaaCrash
import Derived.Lib.SlBytesConst
namespace Go.Proofs.Ytpngnmogjmdmhaa
open Go.RowKit

theorem Dsk.Inv.appD {d : Dsk} (h : d.Inv) (f : Int) (b : List UInt8) : (d.appD f b).Inv := by
  unfold Dsk.appD
  split
  · exact h
  · split
    · exact h
    · split
      · exact h.went
      · rename_i h1 h2 h3
        have hf : 0 ≤ f ∧ f < 3 := Decidable.not_not.1 h1
        refine h.went.note _ (by simp only; omega) (fun e => by cases e) ?_
        rw [Dsk.went_cur]
        simp [Ch.on]
        omega

theorem Dsk.Inv.cutD {d : Dsk} (h : d.Inv) (f n : Int) : (d.cutD f n).Inv := by
  unfold Dsk.cutD
  split
  · exact h
  · split
    · exact h
    · split
      · exact h.went
      · rename_i h1 h2 h3
        have hf : 0 ≤ f ∧ f < 3 := Decidable.not_not.1 h1
        have hs := h.curShort f.toNat (by omega)
        refine h.went.note _ (by simp only; omega) (fun _ => ?_) ?_
        · rw [Dsk.went_cur]; simp only; omega
        · rw [Dsk.went_cur]
          simp [Ch.on]
          omega

theorem Dsk.Inv.syncD {d : Dsk} (h : d.Inv) : d.syncD.Inv := by
  unfold Dsk.syncD
  split
  · exact h.went
  · exact h.went.sync

theorem Dsk.Inv.crashD {d : Dsk} (h : d.Inv) (k t : Int) : (d.crashD k t).Inv := by
  unfold Dsk.crashD
  split
  · exact h
  · exact h.crash _ _

theorem Dsk.appD_few (d : Dsk) (f : Int) (b : List UInt8) : (d.appD f b).ops.length ≤ d.ops.length + 1 := by
  unfold Dsk.appD
  split
  · omega
  · split
    · omega
    · split
      · rw [Dsk.went_ops]; omega
      · simp [Dsk.note, Dsk.went_ops]

theorem Dsk.cutD_few (d : Dsk) (f n : Int) : (d.cutD f n).ops.length ≤ d.ops.length + 1 := by
  unfold Dsk.cutD
  split
  · omega
  · split
    · omega
    · split
      · rw [Dsk.went_ops]; omega
      · simp [Dsk.note, Dsk.went_ops]

theorem Dsk.syncD_few (d : Dsk) : d.syncD.ops.length ≤ d.ops.length := by
  unfold Dsk.syncD
  split
  · rw [Dsk.went_ops]; omega
  · simp [Dsk.sync]

theorem Dsk.crashD_few (d : Dsk) (k t : Int) : (d.crashD k t).ops.length ≤ d.ops.length := by
  unfold Dsk.crashD
  split
  · omega
  · simp [Dsk.crash]

/-- The disk d, all of whose blocks are the call's own (from base on). -/
structure Sole (base : Nat) (w : World) (p : Nat) (x : Dx) (d : Dsk) : Prop where
  is : DIs w p x d
  turn : ∀ k, Turn p x k → base ≤ k
  reads : ∀ k, Reads x k → base ≤ k
  inv : d.Inv

theorem Now.sole {base : Nat} {w w' : World} {p : Nat} {x : Dx} {d d' : Dsk} (h : Now w w' p x d') (hs : Sole base w p x d) (hi : d'.Inv) (hb : base ≤ w.heap.size) : ∃ x', Sole base w' p x' d' ∧ Grow w p x x' ∧ Kp (Turn p x) w w' := by
  obtain ⟨x', h1, h2, h3⟩ := h
  refine ⟨x', ⟨h1, fun k e => ?_, fun k e => ?_, hi⟩, h2, h3⟩
  · rcases h2.1 k e with h4 | h4
    · exact hs.turn k h4
    · omega
  · rcases h2.2 k e with h4 | h4
    · exact hs.reads k h4
    · omega

theorem Sole.below {base : Nat} {w w' : World} {p : Nat} {x : Dx} {d : Dsk} (h : Sole base w p x d) (hb : Below w.heap.size w w') : Sole base w' p x d := ⟨⟨h.is.1.below hb, h.is.2⟩, h.turn, h.reads, h.inv⟩

theorem at_mark (w : World) (l : List UInt8) (cs : Array Value) (m : Nat × Nat) (h : cs = (l.map B).toArray) : At (w.alloc (.cells cs 5 m)) (some ⟨w.heap.size, 0, none⟩) l := by
  subst h
  refine fun _ => ⟨w.heap.size, 0, rfl, fun i hi => ?_⟩
  have hh : (w.alloc (.cells (l.map B).toArray 5 m)).heap[w.heap.size]? = some (.cells (l.map B).toArray 5 m) := by
    show (w.heap.push _)[w.heap.size]? = _
    simp
  rw [Nat.zero_add]
  unfold World.cell?
  simp only [hh]
  simp [hi, B]

theorem const_run (w : World) (C : Array Value) (n c : Nat) : (convert 26 26 (.slice (some ⟨w.heap.size, 0, none⟩) n c)).run Try.prog (w.alloc (.cells C 5)) = .ok (.slice (some ⟨w.heap.size, 0, none⟩) n c) (w.alloc (.cells C 5 (C.size, C.size + 1))) :=
  Lib.run_convert_bytes_const (P := Try.prog) w 26 5 C n c Try.underlying26 Try.underlying5

/-- Append of a literal to a disk of the call's own. -/
theorem append_sole (base p : Nat) (x : Dx) (d d' : Dsk) (f e0 : Int) (a : Option Addr) (len cap : Nat) (b : List UInt8) (w : World) (hs : Sole base w p x d) (hbase : base ≤ w.heap.size) (hn : d.ops.length ≤ 1000000) (hl : b.length = len) (hlen : len ≤ 140737488355328) (hat : At w a b) (hsep : ∀ ad, a = some ad → ¬ Turn p x ad.block)
    (he : d.appE f b = e0) (hd : d.appD f b = d') :
    Calls Try.prog 10 #[.pointer (some ⟨p, 0, none⟩), .int .i64 f, .slice a len cap] w fun e w' => e = .returned (.int .i64 e0) ∧ ∃ x', Sole base w' p x' d' ∧ Grow w p x x' ∧ Kp (Turn p x) w w' := by
  subst he; subst hd
  refine (append_any p x d f a len cap b w hs.inv hs.is hn hl hlen hat hsep).mono ?_
  rintro e w' ⟨rfl, h⟩
  exact ⟨rfl, h.sole hs (hs.inv.appD f b) hbase⟩

theorem cut_sole (base p : Nat) (x : Dx) (d d' : Dsk) (f n e0 : Int) (w : World) (hs : Sole base w p x d) (hbase : base ≤ w.heap.size) (hn : d.ops.length ≤ 1000000) (he : d.cutE f n = e0) (hd : d.cutD f n = d') :
    Calls Try.prog 12 #[.pointer (some ⟨p, 0, none⟩), .int .i64 f, .int .i64 n] w fun e w' => e = .returned (.int .i64 e0) ∧ ∃ x', Sole base w' p x' d' ∧ Grow w p x x' ∧ Kp (Turn p x) w w' := by
  subst he; subst hd
  refine (cut_any p x d f n w hs.inv hs.is hn).mono ?_
  rintro e w' ⟨rfl, h⟩
  exact ⟨rfl, h.sole hs (hs.inv.cutD f n) hbase⟩

theorem sync_sole (base p : Nat) (x : Dx) (d d' : Dsk) (e0 : Int) (w : World) (hs : Sole base w p x d) (hbase : base ≤ w.heap.size) (hn : d.ops.length ≤ 1000000) (he : d.errs = e0) (hd : d.syncD = d') :
    Calls Try.prog 11 #[.pointer (some ⟨p, 0, none⟩)] w fun e w' => e = .returned (.int .i64 e0) ∧ ∃ x', Sole base w' p x' d' ∧ Grow w p x x' ∧ Kp (Turn p x) w w' := by
  subst he; subst hd
  refine (sync_any p x d w hs.inv hs.is hn).mono ?_
  rintro e w' ⟨rfl, h⟩
  exact ⟨rfl, h.sole hs hs.inv.syncD hbase⟩

theorem crash_sole (base p : Nat) (x : Dx) (d d' : Dsk) (k t e0 : Int) (w : World) (hs : Sole base w p x d) (hbase : base ≤ w.heap.size) (hn : d.ops.length ≤ 1000000) (he : Dsk.crashE k t = e0) (hd : d.crashD k t = d') :
    Calls Try.prog 14 #[.pointer (some ⟨p, 0, none⟩), .int .i64 k, .int .i64 t] w fun e w' => e = .returned (.int .i64 e0) ∧ ∃ x', Sole base w' p x' d' ∧ Grow w p x x' ∧ Kp (Turn p x) w w' := by
  subst he; subst hd
  refine (crash_any p x d k t w hs.inv hs.is hn).mono ?_
  rintro e w' ⟨rfl, h⟩
  exact ⟨rfl, h.sole hs (hs.inv.crashD k t) hbase⟩

theorem read_sole (base p : Nat) (x : Dx) (d : Dsk) (f e0 : Int) (l : List UInt8) (n : Nat) (w : World) (hs : Sole base w p x d) (he : d.readE f = e0) (hl : d.readB f = l) (hn : l.length = n) :
    Calls Try.prog 15 #[.pointer (some ⟨p, 0, none⟩), .int .i64 f] w fun e w' => ∃ b c, e = .returned (.tuple #[.slice b n c, .int .i64 e0]) ∧ Own w' w.heap.size (.slice b n c) l ∧ Below w.heap.size w w' := by
  subst he; subst hl; subst hn
  refine (read_any p x d f w hs.inv hs.is).mono ?_
  rintro e w' ⟨b, n, c, rfl, rfl, ho, hb⟩
  exact ⟨b, c, rfl, ho, hb⟩

theorem durable_sole (base p : Nat) (x : Dx) (d : Dsk) (f e0 : Int) (l : List UInt8) (n : Nat) (w : World) (hs : Sole base w p x d) (he : Dsk.durE f = e0) (hl : d.durB f = l) (hn : l.length = n) :
    Calls Try.prog 18 #[.pointer (some ⟨p, 0, none⟩), .int .i64 f] w fun e w' => ∃ b c, e = .returned (.tuple #[.slice b n c, .int .i64 e0]) ∧ Own w' w.heap.size (.slice b n c) l ∧ Below w.heap.size w w' := by
  subst he; subst hl; subst hn
  refine (durable_any p x d f w hs.inv hs.is).mono ?_
  rintro e w' ⟨b, n, c, rfl, rfl, ho, hb⟩
  exact ⟨b, c, rfl, ho, hb⟩

def A1 : Dsk := Dsk.new.appD 0 [97, 98]
def A2 : Dsk := A1.crashD 0 1
def A3 : Dsk := A2.appD 0 [98, 99]
def A4 : Dsk := A3.syncD

theorem Own.at {w : World} {base : Nat} {a : Option Addr} {n c : Nat} {l : List UInt8} (h : Own w base (.slice a n c) l) : At w a l := by
  obtain ⟨a', c', he, _, hat⟩ := h.form
  simp only [Value.slice.injEq] at he
  rw [he.1]
  exact hat

theorem At.low {w w' : World} {base : Nat} {a : Option Addr} {l : List UInt8} (h : At w a l) (hb : Below base w w') (hl : ∀ ad, a = some ad → ad.block < base) : At w' a l :=
  h.kp (S := fun k => base ≤ k) ⟨hb.os, hb.tape, hb.output, hb.size, fun k _ hn => hb.block k (by omega)⟩ (fun ad e hn => by have := hl ad e; omega)

set_option maxRecDepth 100000 in
set_option maxHeartbeats 4000000 in
theorem awake_any (w : World) : Calls Try.prog 20 #[] w fun e w' => e = .returned (.bool true) ∧ Below w.heap.size w w' := by
  have kc := const_run
  go_enter Try.func20, Try.ntmps20
  go_wp2_with fail
  refine (new_any w).mono ?_
  rintro e w1 ⟨p, x1, rfl, h1, ht1, hr1, hb1⟩
  have s1 : Sole w.heap.size w1 p x1 Dsk.new := ⟨h1, ht1, fun k e => absurd e (hr1 k), Dsk.new_inv⟩
  have z1 := hb1.size
  go_wp2_with fail
  refine (append_sole w.heap.size p x1 Dsk.new A1 0 0 _ 2 2 [97, 98] _ (s1.below (below_lit w1 _)) (Nat.le_trans z1 (below_lit w1 _).size) (by decide) rfl (by omega) (at_mark w1 [97, 98] _ _ rfl) (fun ad e ht => by cases e; have := s1.is.1.turn_lt _ ht; simp at this) (by decide) rfl).mono ?_
  rintro e w2 ⟨rfl, x2, s2, g2, k2⟩
  have b2 : Below w.heap.size w w2 := (bnext hb1 (below_lit w1 _)).trans (k2.below s1.turn (Nat.le_trans z1 (below_lit w1 _).size))
  go_wp2_with fail
  refine (crash_sole w.heap.size p x2 A1 A2 0 1 0 _ s2 b2.size (by decide) (by decide) rfl).mono ?_
  rintro e w3 ⟨rfl, x3, s3, g3, k3⟩
  have b3 : Below w.heap.size w w3 := b2.trans (k3.below s2.turn b2.size)
  go_wp2_with fail
  refine (read_sole w.heap.size p x3 A2 0 0 [97] 1 _ s3 (by decide) (by decide) rfl).mono ?_
  rintro e w4 ⟨ra, rc, rfl, ro, b4⟩
  have s4 := s3.below b4
  have b4' : Below w.heap.size w w4 := bnext b3 b4
  have rlt := addr_lt ro
  have rT : ∀ ad, ra = some ad → ¬ Turn p x3 ad.block := fun ad e ht => by
    have h5 := (rlt ad e).1
    have h6 := s3.is.1.turn_lt _ ht
    omega
  have z4 := b4'.size
  go_wp2_with fail
  refine (append_sole w.heap.size p x3 A2 A3 0 0 _ 2 2 [98, 99] _ (s4.below (below_lit w4 _)) (Nat.le_trans z4 (below_lit w4 _).size) (by decide) rfl (by omega) (at_mark w4 [98, 99] _ _ rfl) (fun ad e ht => by cases e; have := s4.is.1.turn_lt _ ht; simp at this) (by decide) rfl).mono ?_
  rintro e w5 ⟨rfl, x5, s5, g5, k5⟩
  have b5 : Below w.heap.size w w5 := (bnext b4' (below_lit w4 _)).trans (k5.below s4.turn (Nat.le_trans z4 (below_lit w4 _).size))
  have rat5 : At w5 ra [97] := (ro.at.below (below_lit w4 _)).kp k5 rT
  have rT5 : ∀ ad, ra = some ad → ¬ Turn p x5 ad.block := fun ad e ht => by
    rcases g5.1 _ ht with h5 | h5
    · exact rT ad e h5
    · have h6 := (rlt ad e).2
      have h7 := (below_lit w4 (.cells #[.int .u8 98, .int .u8 99] 5 (2, 3))).size
      have h8 : (w4.alloc (.cells #[.int .u8 98, .int .u8 99] 5 (2, 3))).heap.size ≤ ad.block := h5
      omega
  go_wp2_with fail
  refine (sync_sole w.heap.size p x5 A3 A4 0 _ s5 b5.size (by decide) (by decide) rfl).mono ?_
  rintro e w6 ⟨rfl, x6, s6, g6, k6⟩
  have b6 : Below w.heap.size w w6 := b5.trans (k6.below s5.turn b5.size)
  have rat6 := rat5.kp k6 rT5
  go_wp2_with fail
  refine (durable_sole w.heap.size p x6 A4 0 0 [97, 98, 99] 3 _ s6 (by decide) (by decide) rfl).mono ?_
  rintro e w7 ⟨qa, qc, rfl, qo, b7⟩
  have s7 := s6.below b7
  have b7' : Below w.heap.size w w7 := bnext b6 b7
  have cv1 := conv_run w7 ra [97] 1 rc rfl (rat6.below b7)
  have cv2 := conv_run w7 qa [97, 98, 99] 3 qc rfl qo.at
  have e1 : (([97] : List UInt8).toArray) = #[97] := rfl
  have e2 : (([97, 98, 99] : List UInt8).toArray) = #[97, 98, 99] := rfl
  rw [e1] at cv1
  rw [e2] at cv2
  clear e1 e2
  have hp0 : (A4.ops.length : Int) = 0 := by decide
  go_wp2_with (go_at_call 16; refine (pending_any p x6 A4 _ s7.is).mono ?_; rintro e w8 ⟨rfl, rfl⟩; rw [hp0])
  go_ret
  exact ⟨rfl, b7'⟩
end Go.Proofs.Ytpngnmogjmdmhaa
