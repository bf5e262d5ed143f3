/- JournalKept, the plain side: snapshots. -/
import Derived.Test.YtcbgnodmamcmkaaKeptP2
import Derived.Test.YtcbgnodmamcmkaaSnapJ
namespace Go.Proofs.Ytcbgnodmamcmkaa

section
variable {st : Nat → List UInt8}

theorem step_sync {d : Dsk} {all : List KB} {lo : Nat} (h : Outs st d all lo) (hi : d.Inv) : Outs st d.syncD all lo ∧ d.syncD.Inv ∧ (d.errs = 0 → d.syncD.cur = d.cur) := by
  refine ⟨?_, hi.syncD, fun e => ?_⟩
  · unfold Dsk.syncD
    split
    · exact h.went
    · refine Outs.sync ?_
      rw [Dsk.went_cur]
      exact h.cur hi
  · unfold Dsk.syncD
    rw [if_neg (by rw [e]; simp)]
    exact Dsk.went_cur d

theorem sync_more {d : Dsk} {all : List KB} {lo : Nat} (h : Good st d.cur all lo) (e : d.errs = 0) : Outs st d.syncD all lo := by
  unfold Dsk.syncD
  rw [if_neg (by rw [e]; simp)]
  refine Outs.sync ?_
  rw [Dsk.went_cur]
  exact h

/-- The files with g emptied. -/
def emp (F : Fs) (g : Nat) : Fs := fun i => if i = g then [] else F i
/-- The files with bytes behind g. -/
def add (F : Fs) (g : Nat) (b : List UInt8) : Fs := fun i => if i = g then F i ++ b else F i

theorem apply_cut (F : Fs) (g : Nat) : apply ⟨g, false, [], 0⟩ F = emp F g := by
  funext i
  simp only [apply, emp, Ch.on]
  split <;> simp
theorem apply_app (F : Fs) (g : Nat) (b : List UInt8) : apply ⟨g, true, b, 0⟩ F = add F g b := by
  funext i
  simp only [apply, add, Ch.on]
  split <;> simp

theorem not_bad {g : Nat} (h : g < 3) : ¬ bad (g : Int) := by unfold bad; omega

theorem step_cut {d : Dsk} {all : List KB} {lo g : Nat} (h : Outs st d all lo) (hi : d.Inv) (hg : g < 3) (hgood : Good st (emp d.cur g) all lo) :
    Outs st (d.cutD g 0) all lo ∧ (d.cutD g 0).Inv ∧ (d.cutE g 0 = 0 → (d.cutD g 0).cur = emp d.cur g) := by
  have hD : d.cutD g 0 = if d.errs ≠ 0 then d.went else d.went.note ⟨g, false, [], 0⟩ := by
    unfold Dsk.cutD
    rw [if_neg (not_bad hg), if_neg (by omega)]
    rfl
  have hE : d.cutE g 0 = d.errs := by
    unfold Dsk.cutE
    rw [if_neg (not_bad hg), if_neg (by omega)]
  refine ⟨?_, hi.cutD _ _, fun e => ?_⟩
  · rw [hD]
    split
    · exact h.went
    · refine Outs.note h.went hi.went (fun t => ?_) ?_
      · rw [if_neg (by simp), Dsk.went_cur]
        exact h.cur hi
      · rw [Dsk.went_cur, apply_cut]
        exact hgood
  · rw [hE] at e
    rw [hD, if_neg (by rw [e]; simp)]
    show apply ⟨g, false, [], 0⟩ d.went.cur = _
    rw [Dsk.went_cur, apply_cut]

theorem step_app {d : Dsk} {all : List KB} {lo g : Nat} {b : List UInt8} (h : Outs st d all lo) (hi : d.Inv) (hg : g < 3) (hgood : ∀ t, Good st (add d.cur g (b.take t)) all lo) :
    Outs st (d.appD g b) all lo ∧ (d.appD g b).Inv ∧ (d.appE g b = 0 → (d.appD g b).cur = add d.cur g b) := by
  have hfull : Good st (add d.cur g b) all lo := by have := hgood b.length; rwa [List.take_length] at this
  refine ⟨?_, hi.appD _ _, fun e => ?_⟩
  · unfold Dsk.appD
    rw [if_neg (not_bad hg)]
    split
    · exact h
    · split
      · exact h.went
      · refine Outs.note h.went hi.went (fun t => ?_) ?_
        · rw [if_pos rfl, Dsk.went_cur]
          have := hgood t
          rw [← apply_app] at this
          exact this
        · rw [Dsk.went_cur]
          have := hfull
          rw [← apply_app] at this
          exact this
  · unfold Dsk.appE at e
    unfold Dsk.appD
    rw [if_neg (not_bad hg)] at e ⊢
    split at e
    · omega
    · rename_i h3
      rw [if_neg h3, if_neg (by rw [e]; simp)]
      show apply ⟨(g : Int).toNat, true, b, 0⟩ d.went.cur = _
      rw [Dsk.went_cur]
      exact apply_app _ _ _

theorem emp_same {F : Fs} {g : Nat} : emp F g g = [] := by simp [emp]
theorem emp_other {F : Fs} {g i : Nat} (h : i ≠ g) : emp F g i = F i := by simp [emp, h]
theorem add_same {F : Fs} {g : Nat} {b : List UInt8} : add F g b g = F g ++ b := by simp [add]
theorem add_other {F : Fs} {g i : Nat} {b : List UInt8} (h : i ≠ g) : add F g b i = F i := by simp [add, h]

/-- The other file of states is none. -/
theorem Sts.lose {F G : Fs} {f q : Nat} {hv : Bool} (h : Sts st F f q hv) (h1 : G f = F f) (h2 : ¬ IsState (G (3 - f))) : Sts st G f q hv := by
  obtain ⟨hf, h⟩ := h
  refine ⟨hf, ?_⟩
  cases hv with
  | true =>
    rw [if_pos rfl] at h ⊢
    exact ⟨by rw [h1]; exact h.1, .inl h2⟩
  | false =>
    rw [if_neg (by simp)] at h ⊢
    refine ⟨h.1, ?_⟩
    rcases hf with rfl | rfl
    · exact ⟨by rw [h1]; exact h.2.1, h2⟩
    · exact ⟨h2, by rw [h1]; exact h.2.2⟩

/-- The other file of states holds a better one. -/
theorem Sts.gain {F G : Fs} {f q n : Nat} {hv : Bool} (h : Sts st F f q hv) (hq : q ≤ n) (h1 : G f = F f) (h2 : G (3 - f) = entB n 255 (st n)) : Sts st G (3 - f) n true := by
  obtain ⟨hf, h⟩ := h
  have hff : 3 - (3 - f) = f := by rcases hf with rfl | rfl <;> rfl
  refine ⟨by rcases hf with rfl | rfl <;> simp, ?_⟩
  rw [if_pos rfl, hff]
  refine ⟨h2, ?_⟩
  cases hv with
  | true =>
    rw [if_pos rfl] at h
    exact .inr ⟨q, hq, by rw [h1]; exact h.1⟩
  | false =>
    rw [if_neg (by simp)] at h
    left
    rw [h1]
    rcases hf with rfl | rfl
    · exact h.2.1
    · exact h.2.2

theorem Life.snap {all : List KB} {j : Jr} (h : Life st all j) (hst : ∀ q, (st q).length ≤ 1000) : Life st all (j.sn (st j.l)) := by
  obtain ⟨d, l, s, f, b⟩ := j
  cases b with
  | true => simp only [Jr.sn, Jr.snQ, Bool.true_or, if_true]; exact h
  | false =>
    obtain ⟨hl, hs, q, hv, a, hS, haq, hqn, hlog⟩ := h.live rfl
    simp only at hl hs hS hlog
    subst hl
    have hout := h.outs
    have hinv := h.inv
    simp only at hout hinv
    have h6 : ¬ 1048559 < (st all.length).length := by have := hst all.length; omega
    have hto : Jr.oth ⟨d, all.length, s, f, false⟩ = 3 - f := by
      unfold Jr.oth
      rcases hS.1 with rfl | rfl <;> rfl
    have hff : f < 3 ∧ 3 - f < 3 ∧ f ≠ 3 - f ∧ 3 - f ≠ 0 ∧ f ≠ 0 ∧ 3 - f = (3 - f : Nat) := by
      rcases hS.1 with rfl | rfl <;> simp
    obtain ⟨f1, f2, f3, f4, f5, _⟩ := hff
    have hsn : Jr.sn ⟨d, all.length, s, f, false⟩ (st all.length) = if stpsE (snSteps (3 - f) (entB all.length 255 (st all.length))) d = 0 then ⟨stpsD (snSteps (3 - f) (entB all.length 255 (st all.length))) d, all.length, all.length, 3 - f, false⟩ else ⟨stpsD (snSteps (3 - f) (entB all.length 255 (st all.length))) d, all.length, s, f, true⟩ := by
      have hQ : Jr.snQ ⟨d, all.length, s, f, false⟩ (st all.length) = false := by simp only [Jr.snQ, decide_eq_false h6, Bool.or_false]
      have hE : Jr.snE ⟨d, all.length, s, f, false⟩ (st all.length) = stpsE (snSteps (3 - f) (entB all.length 255 (st all.length))) d := by
        simp only [Jr.snE, Bool.false_eq_true, if_false, if_neg h6, hto]
      simp only [Jr.sn, hQ, Bool.false_eq_true, if_false, hE, Jr.snD, hto]
    rw [hsn]
    clear hsn
    obtain ⟨B, hB⟩ : ∃ B, B = entB all.length 255 (st all.length) := ⟨_, rfl⟩
    obtain ⟨g, hg⟩ : ∃ g, g = 3 - f := ⟨_, rfl⟩
    rw [← hB, ← hg]
    rw [← hg] at f2 f3 f4
    have hbrk : ∀ D : Dsk, Outs st D all s → D.Inv → Life st all ⟨D, all.length, s, f, true⟩ := fun D h1 h2 => ⟨h1, h2, h.small, fun h => by cases h⟩
    have hbl : B.length = 17 + (st all.length).length := by rw [hB]; exact entB_len _ _ _
    -- the files behind each step
    have hS2 : Sts st (emp d.cur g) f q hv := hS.lose (emp_other f3) (by rw [← hg, emp_same]; exact nostate_nil)
    have hG2 : Good st (emp d.cur g) all all.length := good_clean hS2 haq hqn (by rw [emp_other (Ne.symm f4)]; exact hlog)
    have hS3 : Sts st (add (emp d.cur g) g B) g all.length true := by
      rw [hg]
      refine hS.gain hqn (by rw [← hg, add_other f3, emp_other f3]) (by rw [← hg, add_same, emp_same, List.nil_append, hB])
    have hG3 : ∀ t, Good st (add (emp d.cur g) g (B.take t)) all all.length := fun t => by
      by_cases ht : t < 17 + (st all.length).length
      · refine good_clean (f := f) (q := q) (hv := hv) (hS.lose (by rw [add_other f3, emp_other f3]) ?_) haq hqn (by rw [add_other (Ne.symm f4), emp_other (Ne.symm f4)]; exact hlog)
        rw [← hg, add_same, emp_same, List.nil_append, hB]
        exact nostate_part _ _ _ (by have := hst all.length; omega) ht
      · rw [List.take_of_length_le (by omega)]
        exact good_clean hS3 (a := a) (by omega) (Nat.le_refl _) (by rw [add_other (Ne.symm f4), emp_other (Ne.symm f4)]; exact hlog)
    have hS5 : Sts st (emp (add (emp d.cur g) g B) 0) g all.length true := hS3.congr (emp_other (by omega)) (emp_other (by omega))
    have hL5 : emp (add (emp d.cur g) g B) 0 0 = logB (all.length + 1) (seg all all.length all.length) := by rw [emp_same, seg_same]; rfl
    have hG5 : Good st (emp (add (emp d.cur g) g B) 0) all all.length := good_clean hS5 (Nat.le_refl _) (Nat.le_refl _) hL5
    -- the steps
    obtain ⟨o1, i1, c1⟩ := step_sync hout hinv
    simp only [snSteps, stpsE, stpsD]
    by_cases e1 : Stp.sy.E d = 0
    · rw [if_pos e1, if_pos e1]
      have c1 := c1 e1
      obtain ⟨o2, i2, c2⟩ := step_cut (g := g) o1 i1 f2 (by rw [c1]; exact hG2.less hs)
      by_cases e2 : (Stp.cut g).E (Stp.sy.D d) = 0
      · rw [if_pos e2, if_pos e2]
        have c2 := c2 e2
        rw [c1] at c2
        obtain ⟨o3, i3, c3⟩ := step_app (g := g) (b := B) o2 i2 f2 (fun t => by rw [c2]; exact (hG3 t).less hs)
        by_cases e3 : (Stp.app g B).E ((Stp.cut g).D (Stp.sy.D d)) = 0
        · rw [if_pos e3, if_pos e3]
          have c3 := c3 e3
          rw [c2] at c3
          obtain ⟨o4, i4, c4⟩ := step_sync o3 i3
          by_cases e4 : Stp.sy.E ((Stp.app g B).D ((Stp.cut g).D (Stp.sy.D d))) = 0
          · rw [if_pos e4, if_pos e4]
            have c4 := c4 e4
            rw [c3] at c4
            obtain ⟨o5, i5, c5⟩ := step_cut (g := 0) o4 i4 (by omega) (by rw [c4]; exact hG5.less hs)
            by_cases e5 : (Stp.cut 0).E (Stp.sy.D ((Stp.app g B).D ((Stp.cut g).D (Stp.sy.D d)))) = 0
            · rw [if_pos e5, if_pos e5]
              have c5 := c5 e5
              rw [c4] at c5
              obtain ⟨o6, i6, c6⟩ := step_sync o5 i5
              by_cases e6 : Stp.sy.E ((Stp.cut 0).D (Stp.sy.D ((Stp.app g B).D ((Stp.cut g).D (Stp.sy.D d))))) = 0
              · rw [if_pos e6, if_pos e6, if_pos rfl]
                have c6 := c6 e6
                rw [c5] at c6
                refine ⟨sync_more (by have := hG5; rw [← c5] at this; exact this) e6, i6, h.small, fun _ => ⟨rfl, Nat.le_refl _, all.length, true, all.length, ?_, Nat.le_refl _, Nat.le_refl _, ?_⟩⟩
                · have := hS5; rw [← c6] at this; exact this
                · have := hL5; rw [← c6] at this; exact this
              · rw [if_neg e6, if_neg e6, if_neg e6]; exact hbrk _ o6 i6
            · rw [if_neg e5, if_neg e5, if_neg e5]; exact hbrk _ o5 i5
          · rw [if_neg e4, if_neg e4, if_neg e4]; exact hbrk _ o4 i4
        · rw [if_neg e3, if_neg e3, if_neg e3]; exact hbrk _ o3 i3
      · rw [if_neg e2, if_neg e2, if_neg e2]; exact hbrk _ o2 i2
    · rw [if_neg e1, if_neg e1, if_neg e1]; exact hbrk _ o1 i1
end
end Go.Proofs.Ytcbgnodmamcmkaa
