/- cutAndSync, Append and Sync of a journal. -/
import Derived.Test.YtcbgnodmamcmkaaJrn
namespace Go.Proofs.Ytcbgnodmamcmkaa
open Go.RowKit

/-- A plain journal over its disk. -/
structure Jr where
  d : Dsk
  l : Nat
  s : Nat
  f : Nat
  b : Bool

/-- The journal j in memory, over the disk at p. -/
structure JIs (base : Nat) (w : World) (g p : Nat) (x : Dx) (j : Jr) : Prop where
  blk : JBlk w g (some ⟨p, 0, none⟩) j.l j.s j.f j.b
  disk : Sole base w p x j.d
  big : j.l ≤ 4611686018427387904
  sepT : ¬ Turn p x g
  sepR : ¬ Reads x g

theorem JIs.below {base : Nat} {w w' : World} {g p : Nat} {x : Dx} {j : Jr} (h : JIs base w g p x j) (hb : Below w.heap.size w w') : JIs base w' g p x j := ⟨h.blk.below hb, h.disk.below hb, h.big, h.sepT, h.sepR⟩

def Jr.apE (j : Jr) (k : UInt8) (body : List UInt8) : Int := if j.b then 4 else if k = 255 then 2 else if 4611686018427387904 < j.l + 1 then 2 else if 65536 < body.length then 3 else j.d.appE 0 (entB (j.l + 1) k body)
def Jr.apN (j : Jr) (k : UInt8) (body : List UInt8) : Nat := if j.apE k body = 0 then j.l + 1 else 0
def Jr.apQ (j : Jr) (k : UInt8) (body : List UInt8) : Bool := j.b || k == 255 || decide (4611686018427387904 < j.l + 1) || decide (65536 < body.length)
def Jr.ap (j : Jr) (k : UInt8) (body : List UInt8) : Jr := if j.apQ k body then j else if j.apE k body = 0 then { j with d := j.d.appD 0 (entB (j.l + 1) k body), l := j.l + 1 } else { j with d := j.d.appD 0 (entB (j.l + 1) k body), b := true }
def Jr.syE (j : Jr) : Int := if j.b then 4 else j.d.errs
def Jr.sy (j : Jr) : Jr := if j.b then j else if j.d.errs = 0 then { j with d := j.d.syncD, s := j.l } else { j with d := j.d.syncD, b := true }

/-- What a call leaves of a journal. -/
def JNow (base : Nat) (w w' : World) (g p : Nat) (x : Dx) (j : Jr) : Prop := ∃ x', JIs base w' g p x' j ∧ Grow w p x x' ∧ Kp (fun k => Turn p x k ∨ k = g) w w'

theorem JNow.same {base : Nat} {w w' : World} {g p : Nat} {x : Dx} {j : Jr} (h : JIs base w g p x j) (hb : Below w.heap.size w w') : JNow base w w' g p x j :=
  ⟨x, h.below hb, ⟨fun _ e => .inl e, fun _ e => .inl e⟩, Kp.of_below hb⟩

/-- The disk turned, then the journal's own block. -/
theorem JIs.turn {base : Nat} {w w1 w2 w3 : World} {g p : Nat} {x x' : Dx} {j j' : Jr} (h : JIs base w g p x j) (hb : Below w.heap.size w w1) (hs : Sole base w2 p x' j'.d) (hg : Grow w1 p x x') (hk : Kp (Turn p x) w1 w2) (h3 : Kp (fun k => k = g) w2 w3) (hj : JBlk w3 g (some ⟨p, 0, none⟩) j'.l j'.s j'.f j'.b) (hbig : j'.l ≤ 4611686018427387904) : JNow base w w3 g p x j' := by
  have hlt := h.blk.lt
  have hz := hb.size
  have hT : ¬ Turn p x' g := fun e => by
    rcases hg.1 g e with h1 | h1
    · exact h.sepT h1
    · omega
  have hR : ¬ Reads x' g := fun e => by
    rcases hg.2 g e with h1 | h1
    · exact h.sepR h1
    · omega
  refine ⟨x', ⟨hj, ⟨⟨hs.is.1.kp h3 (fun k e e2 => hT (e2 ▸ e)) (fun k e e2 => hR (e2 ▸ e)), hs.is.2⟩, hs.turn, hs.reads, hs.inv⟩, hbig, hT, hR⟩, ⟨fun k e => ?_, fun k e => ?_⟩, ?_⟩
  · rcases hg.1 k e with h1 | h1
    · exact .inl h1
    · exact .inr (by omega)
  · rcases hg.2 k e with h1 | h1
    · exact .inl h1
    · exact .inr (by omega)
  · exact ((Kp.of_below hb).trans (hk.mono (fun k _ e => .inl e))).trans (h3.mono (fun k _ e => .inr e))

theorem sync_j (base g p : Nat) (x : Dx) (j : Jr) (w : World) (h : JIs base w g p x j) (hbase : base ≤ w.heap.size) (hn : j.d.ops.length ≤ 1000000) :
    Calls Try.prog 15 #[.pointer (some ⟨g, 0, none⟩)] w fun e w' => e = .returned (.int .i64 j.syE) ∧ JNow base w w' g p x j.sy := by
  have hu := usable_blk g _ _ _ _ _ w h.blk
  obtain ⟨d, l, s, f, b⟩ := j
  unfold Jr.syE Jr.sy
  simp only at *
  cases b with
  | true =>
    rw [if_pos rfl] at hu ⊢
    rw [if_pos rfl]
    go_enter Try.func15, Try.ntmps15
    go_wp2_with fail
    refine hu.mono ?_
    rintro e w1 ⟨rfl, rfl⟩
    go_wp2
    go_ret
    exact ⟨rfl, JNow.same h (Below.refl _ _)⟩
  | false =>
    rw [if_neg (by simp)] at hu ⊢
    rw [if_neg (by simp)]
    have hB := h.blk
    have c0 := hB.c0
    have hsy := sync_sole base p x d _ _ w h.disk hbase hn rfl rfl
    obtain ⟨E, hE⟩ : ∃ E, E = d.errs := ⟨_, rfl⟩
    obtain ⟨D, hD⟩ : ∃ D, D = d.syncD := ⟨_, rfl⟩
    rw [← hE, ← hD] at hsy ⊢
    replace hD := hid hD
    replace hE := hid hE
    by_cases h0 : E = 0
    · subst h0
      rw [if_pos rfl]
      go_enter Try.func15, Try.ntmps15
      go_wp2_with fail
      refine hu.mono ?_
      rintro e w1 ⟨rfl, rfl⟩
      go_wp2_with fail
      refine hsy.mono ?_
      rintro e w2 ⟨rfl, x', s2, g2, k2⟩
      have hB2 := hB.kp k2 h.sepT
      go_wp2_with fail
      refine (noted_ok _ w2).mono ?_
      rintro e w3 ⟨rfl, rfl⟩
      have d1 := hB2.c1
      have d2 := hB2.c2
      have f2 := hB2.free 2
      have hJ : JNow base w1 (w3.setCell ⟨g, 2, none⟩ (.int .i64 (l : Int))) g p x ⟨D, l, l, f, false⟩ := h.turn (Below.refl _ _) s2 g2 k2 (kp_one _ _ _ _) (hB2.set2 _) h.big
      replace hJ := hid hJ
      go_wp2
      go_ret
      exact ⟨rfl, hJ.out⟩
    · rw [if_neg h0]
      have e1 : (E != 0) = true := by simpa using h0
      go_enter Try.func15, Try.ntmps15
      go_wp2_with fail
      refine hu.mono ?_
      rintro e w1 ⟨rfl, rfl⟩
      go_wp2_with fail
      refine hsy.mono ?_
      rintro e w2 ⟨rfl, x', s2, g2, k2⟩
      have hB2 := hB.kp k2 h.sepT
      go_wp2_with fail
      refine (noted_err g _ _ _ _ E _ w2 hB2 h0).mono ?_
      rintro e w3 ⟨rfl, rfl⟩
      have hJ : JNow base w1 (w2.setCell ⟨g, 4, none⟩ (.bool true)) g p x ⟨D, l, s, f, true⟩ := h.turn (Below.refl _ _) s2 g2 k2 (kp_one _ _ _ _) (hB2.set4 _) h.big
      replace hJ := hid hJ
      go_wp2
      go_ret
      exact ⟨rfl, hJ.out⟩

/-- What cutAndSync answers, and leaves. -/
def Dsk.csE (d : Dsk) (n : Int) : Int := if d.cutE 0 n = 0 then (d.cutD 0 n).errs else d.cutE 0 n
def Dsk.csD (d : Dsk) (n : Int) : Dsk := if d.cutE 0 n = 0 then (d.cutD 0 n).syncD else d.cutD 0 n

theorem cutsync_sole (base p : Nat) (x : Dx) (d d' : Dsk) (n e0 : Int) (w : World) (hs : Sole base w p x d) (hbase : base ≤ w.heap.size) (hn : d.ops.length + 1 ≤ 1000000) (he : d.csE n = e0) (hd : d.csD n = d') :
    Calls Try.prog 44 #[.pointer (some ⟨p, 0, none⟩), .int .i64 n] w fun e w' => e = .returned (.int .i64 e0) ∧ ∃ x', Sole base w' p x' d' ∧ Grow w p x x' ∧ Kp (Turn p x) w w' := by
  subst he; subst hd
  unfold Dsk.csE Dsk.csD
  have hcu := cut_sole base p x d _ 0 n _ w hs hbase (by omega) rfl rfl
  have hfew := d.cutD_few 0 n
  obtain ⟨E, hE⟩ : ∃ E, E = d.cutE 0 n := ⟨_, rfl⟩
  obtain ⟨D, hD⟩ : ∃ D, D = d.cutD 0 n := ⟨_, rfl⟩
  rw [← hE, ← hD] at hcu ⊢
  rw [← hD] at hfew
  replace hD := hid hD
  replace hE := hid hE
  by_cases h0 : E = 0
  · subst h0
    rw [if_pos rfl, if_pos rfl]
    obtain ⟨E2, hE2⟩ : ∃ E2, E2 = D.errs := ⟨_, rfl⟩
    obtain ⟨D2, hD2⟩ : ∃ D2, D2 = D.syncD := ⟨_, rfl⟩
    rw [← hE2, ← hD2]
    replace hE2 := hid hE2
    replace hD2 := hid hD2
    go_enter Try.func44, Try.ntmps44
    go_wp2_with fail
    refine hcu.mono ?_
    rintro e w1 ⟨rfl, x1, s1, g1, k1⟩
    have hsy := sync_sole base p x1 D D2 E2 w1 s1 (Nat.le_trans hbase k1.size) (by omega) hE2.out.symm hD2.out.symm
    go_wp2_with fail
    refine hsy.mono ?_
    rintro e w2 ⟨rfl, x2, s2, g2, k2⟩
    have hz := k1.size
    have hG : Grow w p x x2 := ⟨fun k e => by
        rcases g2.1 k e with h1 | h1
        · exact g1.1 k h1
        · exact .inr (by omega), fun k e => by
        rcases g2.2 k e with h1 | h1
        · exact g1.2 k h1
        · exact .inr (by omega)⟩
    have hK : Kp (Turn p x) w w2 := k1.next k2 (fun k hk e => by
        rcases g1.1 k e with h1 | h1
        · exact h1
        · omega)
    go_wp2
    go_ret
    exact ⟨rfl, x2, s2, hG, hK⟩
  · have e1 : (E != 0) = true := by simpa using h0
    rw [if_neg h0, if_neg h0]
    go_enter Try.func44, Try.ntmps44
    go_wp2_with fail
    refine hcu.mono ?_
    rintro e w1 ⟨rfl, x1, s1, g1, k1⟩
    go_wp2
    go_ret
    exact ⟨rfl, x1, s1, g1, k1⟩

theorem ent_length (N : Nat) (k : UInt8) (body : List UInt8) : (entB N k body).length = 17 + body.length := by
  unfold entB
  simp [be_length, summed]
  omega

set_option maxHeartbeats 2000000 in
theorem append_j (base g p : Nat) (x : Dx) (j : Jr) (kind : UInt8) (a : Option Addr) (len cap : Nat) (body : List UInt8) (w : World) (hJI : JIs base w g p x j) (hbase : base ≤ w.heap.size) (hn : j.d.ops.length ≤ 1000000) (hl : body.length = len) (hat : At w a body) :
    Calls Try.prog 13 #[.pointer (some ⟨g, 0, none⟩), .int .u8 (kind.toNat : Int), .slice a len cap] w fun e w' => e = .returned (.tuple #[.int .i64 (j.apN kind body : Int), .int .i64 (j.apE kind body)]) ∧ JNow base w w' g p x (j.ap kind body) := by
  subst hl
  have hu := usable_blk g _ _ _ _ _ w hJI.blk
  obtain ⟨d, l, s, f, b⟩ := j
  unfold Jr.apN Jr.ap Jr.apQ Jr.apE
  simp only at *
  have hB := hJI.blk
  have hbig := hJI.big
  have c1 := hB.c1
  have c0 := hB.c0
  simp only at hB hbig c1 c0
  cases b with
  | true =>
    rw [if_pos rfl] at hu
    simp only [Bool.true_or, if_true]
    go_enter Try.func13, Try.ntmps13
    go_wp2_with fail
    refine hu.mono ?_
    rintro e w1 ⟨rfl, rfl⟩
    go_wp2
    go_ret2
    exact ⟨rfl, JNow.same hJI (Below.refl _ _)⟩
  | false =>
    rw [if_neg (by simp)] at hu
    simp only [Bool.false_or, if_false, Bool.false_eq_true]
    by_cases hk : kind = 255
    · subst hk
      simp only [if_true, beq_self_eq_true, Bool.true_or]
      go_enter Try.func13, Try.ntmps13
      go_wp2_with fail
      refine hu.mono ?_
      rintro e w1 ⟨rfl, rfl⟩
      go_wp2
      go_ret2
      exact ⟨rfl, JNow.same hJI (Below.refl _ _)⟩
    · have hk2 : ((kind.toNat : Int) == 255) = false := by
        have := fun e => hk (UInt8.toNat_inj.1 (e : kind.toNat = (255 : UInt8).toNat))
        simp at this ⊢
        omega
      have hk3 : (kind == 255) = false := by simpa using hk
      simp only [if_neg hk, hk3, Bool.false_or]
      replace hk := hid hk
      replace hk3 := hid hk3
      have hadd : (l : Int) + 1 = ((l + 1 : Nat) : Int) := by omega
      by_cases hm : 4611686018427387904 < l + 1
      · have hrb := recordbytes_arg ((l : Int) + 1) kind a body.length cap w (.inr (by omega))
        simp only [if_pos hm, decide_eq_true hm, Bool.true_or, if_true]
        obtain ⟨len, hlen⟩ : ∃ len, len = body.length := ⟨_, rfl⟩
        rw [← hlen] at hrb ⊢
        replace hlen := hid hlen
        obtain ⟨K, hK⟩ : ∃ K : Int, K = (kind.toNat : Int) := ⟨_, rfl⟩
        rw [← hK] at hrb hk2 ⊢
        replace hK := hid hK
        replace hadd := hid hadd
        go_enter Try.func13, Try.ntmps13
        go_wp2_with fail
        refine hu.mono ?_
        rintro e w1 ⟨rfl, rfl⟩
        go_wp2_with fail
        refine hrb.mono ?_
        rintro e w2 ⟨rfl, hb⟩
        go_wp2
        go_ret2
        exact ⟨rfl, JNow.same hJI hb⟩
      · simp only [if_neg hm, decide_eq_false hm, Bool.false_or]
        by_cases h6 : 65536 < body.length
        · have hrb := recordbytes_long ((l : Int) + 1) kind a body.length cap w (by omega) (by omega) h6
          simp only [if_pos h6, decide_eq_true h6, if_true]
          obtain ⟨len, hlen⟩ : ∃ len, len = body.length := ⟨_, rfl⟩
          rw [← hlen] at hrb ⊢
          replace hlen := hid hlen
          obtain ⟨K, hK⟩ : ∃ K : Int, K = (kind.toNat : Int) := ⟨_, rfl⟩
          rw [← hK] at hrb hk2 ⊢
          replace hK := hid hK
          replace hadd := hid hadd
          go_enter Try.func13, Try.ntmps13
          go_wp2_with fail
          refine hu.mono ?_
          rintro e w1 ⟨rfl, rfl⟩
          go_wp2_with fail
          refine hrb.mono ?_
          rintro e w2 ⟨rfl, hb⟩
          go_wp2
          go_ret2
          exact ⟨rfl, JNow.same hJI hb⟩
        · have hrb := recordbytes_ok (l + 1) kind a body.length cap body w (by omega) (by omega) rfl (by omega) hat
          simp only [if_neg h6, decide_eq_false h6, if_false, Bool.false_eq_true]
          have hel := ent_length (l + 1) kind body
          rw [← hadd] at hrb
          obtain ⟨len, hlen⟩ : ∃ len, len = body.length := ⟨_, rfl⟩
          rw [← hlen] at hrb hel ⊢
          have h66 : len ≤ 65536 := by omega
          replace hlen := hid hlen
          obtain ⟨K, hK⟩ : ∃ K : Int, K = (kind.toNat : Int) := ⟨_, rfl⟩
          rw [← hK] at hrb hk2 ⊢
          replace hK := hid hK
          obtain ⟨T, hT⟩ : ∃ T, T = entB (l + 1) kind body := ⟨_, rfl⟩
          rw [← hT] at hrb hel ⊢
          replace hT := hid hT
          obtain ⟨E, hE⟩ : ∃ E, E = d.appE 0 T := ⟨_, rfl⟩
          obtain ⟨D, hD⟩ : ∃ D, D = d.appD 0 T := ⟨_, rfl⟩
          rw [← hE, ← hD]
          replace hE := hid hE
          replace hD := hid hD
          have hadd' := hid hadd
          clear hadd
          replace hel := hid hel
          by_cases h0 : E = 0
          · subst h0
            simp only [if_true]
            go_enter Try.func13, Try.ntmps13
            go_wp2_with fail
            refine hu.mono ?_
            rintro e w1 ⟨rfl, rfl⟩
            go_wp2_with fail
            refine hrb.mono ?_
            rintro e w2 ⟨gr, rfl, hgr, hrow, hb⟩
            have hB2 := hB.below hb
            have c02 := hB2.c0
            have hap := append_sole base p x d D 0 0 (some ⟨gr, 0, none⟩) (17 + len) (17 + len) T w2 (hJI.disk.below hb) (Nat.le_trans hbase hb.size) hn hel.out (by omega) hrow.at (fun ad e ht => by cases e; have hq : gr < _ := hJI.disk.is.1.turn_lt _ ht; omega) hE.out.symm hD.out.symm
            go_wp2_with fail
            refine hap.mono ?_
            rintro e w3 ⟨rfl, x', s2, g2, k2⟩
            have hB3 := hB2.kp k2 hJI.sepT
            go_wp2_with fail
            refine (noted_ok _ w3).mono ?_
            rintro e w4 ⟨rfl, rfl⟩
            have d1 := hB3.c1
            have f1 := hB3.free 1
            have hJ : JNow base w1 (w4.setCell ⟨g, 1, none⟩ (.int .i64 ((l : Int) + 1))) g p x ⟨D, l + 1, s, f, false⟩ := hJI.turn hb s2 g2 k2 (kp_one _ _ _ _) (by rw [hadd'.out]; exact hB3.set1 _) (by show l + 1 ≤ _; omega)
            replace hJ := hid hJ
            go_wp2
            go_ret2
            exact ⟨by rw [← hadd'.out]; rfl, hJ.out⟩
          · have e1 : (E != 0) = true := by simpa using h0
            simp only [if_neg h0]
            go_enter Try.func13, Try.ntmps13
            go_wp2_with fail
            refine hu.mono ?_
            rintro e w1 ⟨rfl, rfl⟩
            go_wp2_with fail
            refine hrb.mono ?_
            rintro e w2 ⟨gr, rfl, hgr, hrow, hb⟩
            have hB2 := hB.below hb
            have c02 := hB2.c0
            have hap := append_sole base p x d D 0 E (some ⟨gr, 0, none⟩) (17 + len) (17 + len) T w2 (hJI.disk.below hb) (Nat.le_trans hbase hb.size) hn hel.out (by omega) hrow.at (fun ad e ht => by cases e; have hq : gr < _ := hJI.disk.is.1.turn_lt _ ht; omega) hE.out.symm hD.out.symm
            go_wp2_with fail
            refine hap.mono ?_
            rintro e w3 ⟨rfl, x', s2, g2, k2⟩
            have hB3 := hB2.kp k2 hJI.sepT
            go_wp2_with fail
            refine (noted_err g _ _ _ _ E _ w3 hB3 h0).mono ?_
            rintro e w4 ⟨rfl, rfl⟩
            have hJ : JNow base w1 (w3.setCell ⟨g, 4, none⟩ (.bool true)) g p x ⟨D, l, s, f, true⟩ := hJI.turn hb s2 g2 k2 (kp_one _ _ _ _) (hB3.set4 _) hJI.big
            replace hJ := hid hJ
            go_wp2
            go_ret2
            exact ⟨rfl, hJ.out⟩
end Go.Proofs.Ytcbgnodmamcmkaa
