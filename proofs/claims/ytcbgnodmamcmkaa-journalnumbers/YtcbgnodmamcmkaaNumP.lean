/- The journals of JournalNumbers: a disk that obeys. -/
import Derived.Test.YtcbgnodmamcmkaaKeptO2
namespace Go.Proofs.Ytcbgnodmamcmkaa
open Go.RowKit

/-- A disk that obeys, with these files and at most n changes that are not synced. -/
structure Clm (d : Dsk) (F : Fs) (n : Nat) : Prop where
  free : Free d
  cur : d.cur = F
  few : d.ops.length ≤ n

theorem Clm.errs {d : Dsk} {F : Fs} {n : Nat} (h : Clm d F n) : d.errs = 0 := errs_free h.free.1 h.free.2.1 h.free.2.2
theorem Clm.went {d : Dsk} {F : Fs} {n : Nat} (h : Clm d F n) : Clm d.went F n :=
  ⟨h.free.went, (went_cur' d).trans h.cur, by unfold Dsk.went; rw [if_neg (by rw [h.free.1]; decide)]; exact h.few⟩
theorem Clm.sy {d : Dsk} {F : Fs} {n : Nat} (h : Clm d F n) : d.errs = 0 ∧ Clm d.syncD F 0 := by
  refine ⟨h.errs, ?_⟩
  unfold Dsk.syncD
  rw [if_neg (by rw [h.errs]; decide)]
  exact ⟨h.went.free, h.went.cur, Nat.le_refl _⟩
theorem Clm.cut {d : Dsk} {F : Fs} {n g : Nat} (h : Clm d F n) (hg : g < 3) : d.cutE g 0 = 0 ∧ Clm (d.cutD g 0) (emp F g) (n + 1) := by
  have hz : ¬ ((0 : Int) < 0 ∨ ((d.cur ((g : Int)).toNat).length : Int) < 0) := by omega
  unfold Dsk.cutE Dsk.cutD
  rw [if_neg (not_bad hg), if_neg hz, if_neg (not_bad hg), if_neg hz, if_neg (by rw [h.errs]; decide)]
  refine ⟨h.errs, h.went.free, ?_, ?_⟩
  · show apply _ d.went.cur = _
    rw [h.went.cur]
    exact apply_cut F g
  · show (d.went.ops ++ [_]).length ≤ _
    have := h.went.few
    simp; omega
theorem Clm.app {d : Dsk} {F : Fs} {n g : Nat} (h : Clm d F n) (hg : g < 3) (b : List UInt8) (hb : (F g).length + b.length ≤ 1048576) : d.appE g b = 0 ∧ Clm (d.appD g b) (add F g b) (n + 1) := by
  have hz : ¬ (1048576 < (d.cur ((g : Int)).toNat).length + b.length) := by rw [h.cur]; simp; omega
  unfold Dsk.appE Dsk.appD
  rw [if_neg (not_bad hg), if_neg hz, if_neg (not_bad hg), if_neg hz, if_neg (by rw [h.errs]; decide)]
  refine ⟨h.errs, h.went.free, ?_, ?_⟩
  · show apply _ d.went.cur = _
    rw [h.went.cur]
    exact apply_app F g b
  · show (d.went.ops ++ [_]).length ≤ _
    have := h.went.few
    simp; omega

theorem stps_one {s : Stp} {r : List Stp} {d : Dsk} (h : s.E d = 0) : stpsE (s :: r) d = stpsE r (s.D d) ∧ stpsD (s :: r) d = stpsD r (s.D d) := by
  constructor
  · show (if s.E d = 0 then _ else _) = _
    rw [if_pos h]
  · show (if s.E d = 0 then _ else _) = _
    rw [if_pos h]

/-- A snapshot upon a disk that obeys. -/
theorem Clm.snap {d : Dsk} {F : Fs} {n l s f : Nat} (h : Clm d F n) (body : List UInt8) (hb : body.length ≤ 1048559) (to : Nat) (hto : to = if f = 1 then 2 else 1) :
    (⟨d, l, s, f, false⟩ : Jr).snE body = 0 ∧ ∃ d', (⟨d, l, s, f, false⟩ : Jr).sn body = ⟨d', l, l, to, false⟩ ∧ Clm d' (emp (add (emp F to) to (entB l 255 body)) 0) 0 := by
  have ht : to < 3 := by rw [hto]; split <;> omega
  have ho : (⟨d, l, s, f, false⟩ : Jr).oth = to := hto.symm
  obtain ⟨e1, c1⟩ : Stp.sy.E d = 0 ∧ Clm (Stp.sy.D d) _ _ := h.sy
  obtain ⟨e2, c2⟩ : (Stp.cut to).E (Stp.sy.D d) = 0 ∧ Clm ((Stp.cut to).D (Stp.sy.D d)) _ _ := c1.cut ht
  obtain ⟨e3, c3⟩ : (Stp.app to (entB l 255 body)).E ((Stp.cut to).D (Stp.sy.D d)) = 0 ∧ Clm ((Stp.app to (entB l 255 body)).D ((Stp.cut to).D (Stp.sy.D d))) _ _ := c2.app ht (entB l 255 body) (by rw [emp_same, ent_length]; simp; omega)
  obtain ⟨e4, c4⟩ : Stp.sy.E ((Stp.app to (entB l 255 body)).D ((Stp.cut to).D (Stp.sy.D d))) = 0 ∧ Clm (Stp.sy.D ((Stp.app to (entB l 255 body)).D ((Stp.cut to).D (Stp.sy.D d)))) _ _ := c3.sy
  obtain ⟨e5, c5⟩ : (Stp.cut 0).E (Stp.sy.D ((Stp.app to (entB l 255 body)).D ((Stp.cut to).D (Stp.sy.D d)))) = 0 ∧ Clm ((Stp.cut 0).D (Stp.sy.D ((Stp.app to (entB l 255 body)).D ((Stp.cut to).D (Stp.sy.D d))))) _ _ := c4.cut (g := 0) (by omega)
  obtain ⟨e6, c6⟩ : Stp.sy.E ((Stp.cut 0).D (Stp.sy.D ((Stp.app to (entB l 255 body)).D ((Stp.cut to).D (Stp.sy.D d))))) = 0 ∧ Clm (Stp.sy.D ((Stp.cut 0).D (Stp.sy.D ((Stp.app to (entB l 255 body)).D ((Stp.cut to).D (Stp.sy.D d)))))) _ _ := c5.sy
  have k : stpsE (snSteps to (entB l 255 body)) d = 0 ∧ Clm (stpsD (snSteps to (entB l 255 body)) d) (emp (add (emp F to) to (entB l 255 body)) 0) 0 := by
    unfold snSteps
    rw [(stps_one e1).1, (stps_one e1).2, (stps_one e2).1, (stps_one e2).2, (stps_one e3).1, (stps_one e3).2, (stps_one e4).1, (stps_one e4).2, (stps_one e5).1, (stps_one e5).2, (stps_one e6).1, (stps_one e6).2]
    exact ⟨rfl, c6⟩
  have hE : (⟨d, l, s, f, false⟩ : Jr).snE body = 0 := by
    unfold Jr.snE
    rw [if_neg Bool.false_ne_true, if_neg (by omega), ho]
    exact k.1
  refine ⟨hE, _, ?_, k.2⟩
  have hQ : (⟨d, l, s, f, false⟩ : Jr).snQ body = false := by
    unfold Jr.snQ
    simp; omega
  unfold Jr.sn
  rw [if_neg (by rw [hQ]; decide), if_pos hE]
  unfold Jr.snD
  rw [ho]

/-- An append upon a disk that obeys. -/
theorem Clm.append {d : Dsk} {F : Fs} {n l s f : Nat} (h : Clm d F n) (k : UInt8) (body : List UInt8) (hk : k ≠ 255) (hl : l < 4611686018427387904) (hb : body.length ≤ 65536) (hr : (F 0).length + (17 + body.length) ≤ 1048576) :
    (⟨d, l, s, f, false⟩ : Jr).apE k body = 0 ∧ (⟨d, l, s, f, false⟩ : Jr).apN k body = l + 1 ∧ ∃ d', (⟨d, l, s, f, false⟩ : Jr).ap k body = ⟨d', l + 1, s, f, false⟩ ∧ Clm d' (add F 0 (entB (l + 1) k body)) (n + 1) := by
  obtain ⟨e, c⟩ := h.app (g := 0) (by omega) (entB (l + 1) k body) (by rw [ent_length]; exact hr)
  have hE : (⟨d, l, s, f, false⟩ : Jr).apE k body = 0 := by
    unfold Jr.apE
    rw [if_neg Bool.false_ne_true, if_neg hk, if_neg (by show ¬ _ < l + 1; omega), if_neg (by omega)]
    exact e
  refine ⟨hE, by unfold Jr.apN; rw [if_pos hE], _, ?_, c⟩
  have hQ : (⟨d, l, s, f, false⟩ : Jr).apQ k body = false := by
    unfold Jr.apQ
    simp [hk]; omega
  unfold Jr.ap
  rw [if_neg (by rw [hQ]; decide), if_pos hE]
  rfl

/-- A sync upon a disk that obeys. -/
theorem Clm.sync {d : Dsk} {F : Fs} {n l s f : Nat} (h : Clm d F n) :
    (⟨d, l, s, f, false⟩ : Jr).syE = 0 ∧ ∃ d', (⟨d, l, s, f, false⟩ : Jr).sy = ⟨d', l, l, f, false⟩ ∧ Clm d' F 0 := by
  obtain ⟨e, c⟩ := h.sy
  refine ⟨?_, _, ?_, c⟩
  · unfold Jr.syE
    rw [if_neg Bool.false_ne_true]
    exact e
  · unfold Jr.sy
    rw [if_neg Bool.false_ne_true, if_pos e]
end Go.Proofs.Ytcbgnodmamcmkaa
