/- JournalKept, the plain side: which state is found; appends, syncs and snapshots. -/
import Derived.Test.YtcbgnodmamcmkaaKeptP
import Derived.Test.YtcbgnodmamcmkaaSnap
namespace Go.Proofs.Ytcbgnodmamcmkaa

theorem isstate_ent (q : Nat) (b : List UInt8) (hq : q ≤ 4611686018427387904) (hb : b.length ≤ 1048559) : IsState (entB q 255 b) := by
  have hH : Holds (entB q 255 b) 0 q 255 b := ⟨[], [], by simp, rfl⟩
  exact ⟨hH.ent 1048559 hb (by omega) hq, by rw [hH.stop (by omega), entB_len, Nat.zero_add], hH.kind⟩
theorem num_ent (q : Nat) (b : List UInt8) (hq : q ≤ 4611686018427387904) : numAt (entB q 255 b) 0 = q :=
  Holds.num (k := 255) (body := b) ⟨[], [], by simp, rfl⟩ (by omega)
theorem body_ent (q : Nat) (b : List UInt8) (hb : b.length ≤ 1048559) : bodyAt (entB q 255 b) 0 = b :=
  Holds.body_at (N := q) (k := 255) ⟨[], [], by simp, rfl⟩ (by omega)
theorem nostate_nil : ¬ IsState [] := fun h => by
  have := h.1.four
  simp at this
theorem nostate_part (q : Nat) (b : List UInt8) (t : Nat) (hb : b.length ≤ 1048559) (ht : t < 17 + b.length) : ¬ IsState ((entB q 255 b).take t) := fun h => by
  have h4 := h.1.four
  have he := h.2.1
  have hl : ((entB q 255 b).take t).length = t := by rw [List.length_take, entB_len]; omega
  rw [hl] at h4 he
  have hz : sizeAt ((entB q 255 b).take t) 0 = 9 + b.length := by
    unfold sizeAt
    rw [mid_at _ [] (be 4 (9 + b.length)) ((summed q 255 b ++ be 4 (crcOf (summed q 255 b))).take (t - 4)) 0 4 ?_ rfl (be_length _ _), numOf_be]
    · omega
    · unfold entB
      rw [List.append_assoc, List.take_append, be_length, List.take_of_length_le (by rw [be_length]; omega), List.nil_append]
  unfold endAt at he
  omega

section
variable {st : Nat → List UInt8}

/-- Which state Open finds. -/
theorem Sts.found {d : Dsk} {f q : Nat} {hv : Bool} (h : Sts st d.cur f q hv) (hst : ∀ q, (st q).length ≤ 1000) (hq : q ≤ 1000000) :
    opNum d = q ∧ opBody d = (if hv = true then st q else []) ∧ Sts st d.cur (opFile d) q hv := by
  obtain ⟨hf, h⟩ := h
  cases hv with
  | false =>
    rw [if_neg (by simp)] at h
    obtain ⟨hq0, h1, h2⟩ := h
    have e1 : stAt d 1 = none := by
      have := stAt_leave (d := d) (j := 0) h1
      rw [this]; rfl
    have e2 : stAt d 2 = none := by
      have := stAt_leave (d := d) (j := 1) h2
      rw [this]; exact e1
    refine ⟨by unfold opNum; rw [e2, hq0], by unfold opBody; rw [e2]; rfl, ?_⟩
    unfold opFile
    rw [e2]
    exact ⟨.inr rfl, by rw [if_neg (by simp)]; exact ⟨hq0, h1, h2⟩⟩
  | true =>
    rw [if_pos rfl] at h
    obtain ⟨h1, h2⟩ := h
    have hs1 := isstate_ent q (st q) (by omega) (by have := hst q; omega)
    have hn1 := num_ent q (st q) (by omega)
    have hb1 := body_ent q (st q) (by have := hst q; omega)
    -- the other one
    have hoth : ¬ IsState (d.cur (3 - f)) ∨ ∃ r, r ≤ q ∧ IsState (d.cur (3 - f)) ∧ numAt (d.cur (3 - f)) 0 = r ∧ d.cur (3 - f) = entB r 255 (st r) := by
      rcases h2 with h2 | ⟨r, hr, h2⟩
      · exact .inl h2
      · refine .inr ⟨r, hr, ?_, ?_, h2⟩
        · rw [h2]; exact isstate_ent r (st r) (by omega) (by have := hst r; omega)
        · rw [h2]; exact num_ent r (st r) (by omega)
    rcases hf with rfl | rfl
    · have e1 : stAt d 1 = some 1 := stAt_take (d := d) (j := 0) (by rw [h1]; exact hs1) (fun f hf => by cases hf)
      have e2 : stAt d 2 = some 1 := by
        rcases hoth with ho | ⟨r, hr, ho, hn, _⟩
        · rw [stAt_leave (d := d) (j := 1) ho]; exact e1
        · rw [stAt_old (d := d) (j := 1) e1 (by rw [h1, hn1]; rw [show (1 + 1 : Nat) = 3 - 1 from rfl, hn]; omega)]; exact e1
      refine ⟨by unfold opNum; rw [e2]; simp only []; rw [h1]; exact hn1, by unfold opBody; rw [e2]; simp only []; rw [h1]; exact hb1, ?_⟩
      unfold opFile
      rw [e2]
      exact ⟨.inl rfl, by rw [if_pos rfl]; exact ⟨h1, h2⟩⟩
    · rcases hoth with ho | ⟨r, hr, ho, hn, he⟩
      · have e1 : stAt d 1 = none := by rw [stAt_leave (d := d) (j := 0) ho]; rfl
        have e2 : stAt d 2 = some 2 := stAt_take (d := d) (j := 1) (by rw [show (1 + 1 : Nat) = 2 from rfl, h1]; exact hs1) (fun f hf => by rw [e1] at hf; cases hf)
        refine ⟨by unfold opNum; rw [e2]; simp only []; rw [h1]; exact hn1, by unfold opBody; rw [e2]; simp only []; rw [h1]; exact hb1, ?_⟩
        unfold opFile
        rw [e2]
        exact ⟨.inr rfl, by rw [if_pos rfl]; exact ⟨h1, h2⟩⟩
      · have e1 : stAt d 1 = some 1 := stAt_take (d := d) (j := 0) ho (fun f hf => by cases hf)
        rcases Nat.lt_or_ge r q with hlt | hge
        · have e2 : stAt d 2 = some 2 := stAt_take (d := d) (j := 1) (by rw [show (1 + 1 : Nat) = 2 from rfl, h1]; exact hs1) (fun f hf => by
            rw [e1] at hf
            cases hf
            rw [show (1 + 1 : Nat) = 2 from rfl, h1, hn1]
            have : numAt (d.cur 1) 0 = r := hn
            omega)
          refine ⟨by unfold opNum; rw [e2]; simp only []; rw [h1]; exact hn1, by unfold opBody; rw [e2]; simp only []; rw [h1]; exact hb1, ?_⟩
          unfold opFile
          rw [e2]
          exact ⟨.inr rfl, by rw [if_pos rfl]; exact ⟨h1, h2⟩⟩
        · have hrq : r = q := by omega
          subst hrq
          have hn' : numAt (d.cur 1) 0 = r := hn
          have he' : d.cur 1 = entB r 255 (st r) := he
          have e2 : stAt d 2 = some 1 := by
            rw [stAt_old (d := d) (j := 1) e1 (by rw [show (1 + 1 : Nat) = 2 from rfl, h1, hn1, hn']; omega)]; exact e1
          refine ⟨by unfold opNum; rw [e2]; simp only []; exact hn', by unfold opBody; rw [e2]; simp only []; rw [he']; exact hb1, ?_⟩
          unfold opFile
          rw [e2]
          exact ⟨.inl rfl, by rw [if_pos rfl]; exact ⟨he', .inr ⟨r, Nat.le_refl _, h1⟩⟩⟩

/-- The journal at work: what a crash can leave is good; while it is not broken its files are as they should be. -/
structure Life (st : Nat → List UInt8) (all : List KB) (j : Jr) : Prop where
  outs : Outs st j.d all j.s
  inv : j.d.Inv
  small : ∀ r ∈ all, r.2.length ≤ 65536
  live : j.b = false → j.l = all.length ∧ j.s ≤ all.length ∧ ∃ q hv a, Sts st j.d.cur j.f q hv ∧ a ≤ q ∧ q ≤ all.length ∧ j.d.cur 0 = logB (a + 1) (seg all a all.length)

theorem went_cur' (d : Dsk) : d.went.cur = d.cur := Dsk.went_cur d

theorem Life.append {all : List KB} {j : Jr} (h : Life st all j) (k : UInt8) (body : List UInt8) (hb : body.length ≤ 65536) (hk : k ≠ 255) (hn : all.length ≤ 1000000) :
    (j.apE k body = 0 → j.apN k body = all.length + 1 ∧ Life st (all ++ [(k, body)]) (j.ap k body)) ∧ (j.apE k body ≠ 0 → Life st all (j.ap k body)) := by
  obtain ⟨d, l, s, f, b⟩ := j
  have hk' : (k == 255) = false := by simpa using hk
  cases b with
  | true =>
    refine ⟨fun e => ?_, fun _ => ?_⟩
    · simp [Jr.apE] at e
    · simp only [Jr.ap, Jr.apQ, Bool.true_or, if_true]
      exact h
  | false =>
    obtain ⟨hl, hs, q, hv, a, hS, haq, hqn, hlog⟩ := h.live rfl
    simp only at hl hs hS hlog
    subst hl
    have h1 : ¬ 4611686018427387904 < all.length + 1 := by omega
    have h2 : ¬ 65536 < body.length := by omega
    have hE : Jr.apE ⟨d, all.length, s, f, false⟩ k body = d.appE 0 (entB (all.length + 1) k body) := by
      simp [Jr.apE, hk, h1, h2]
    have hQ : Jr.apQ ⟨d, all.length, s, f, false⟩ k body = false := by
      simp only [Jr.apQ, hk', decide_eq_false h1, decide_eq_false h2, Bool.or_false]
    have hout := h.outs
    simp only at hout
    constructor
    · intro e
      have e2 := e
      rw [hE] at e2
      have hD : d.appD 0 (entB (all.length + 1) k body) = d.went.note ⟨0, true, entB (all.length + 1) k body, 0⟩ := by
        unfold Dsk.appE at e2
        unfold Dsk.appD
        have hb0 : ¬ bad 0 := by decide
        rw [if_neg hb0] at e2 ⊢
        by_cases h3 : 1048576 < (d.cur (0 : Int).toNat).length + (entB (all.length + 1) k body).length
        · rw [if_pos h3] at e2; omega
        · rw [if_neg h3] at e2 ⊢
          rw [if_neg (by rw [e2]; simp)]
          rfl
      refine ⟨by simp [Jr.apN, e], ?_⟩
      have hap : Jr.ap ⟨d, all.length, s, f, false⟩ k body = ⟨d.went.note ⟨0, true, entB (all.length + 1) k body, 0⟩, all.length + 1, s, f, false⟩ := by
        simp only [Jr.ap, hQ, e, Bool.false_eq_true, if_false, if_true, hD]
      have hinv := h.inv.appD 0 (entB (all.length + 1) k body)
      simp only at hinv
      rw [hD] at hinv
      have hcur : d.went.cur = d.cur := Dsk.went_cur d
      have hf0 : f ≠ 0 := by rcases hS.1 with rfl | rfl <;> omega
      have hlogn : apply ⟨0, true, entB (all.length + 1) k body, 0⟩ d.cur 0 = logB (a + 1) (seg (all ++ [(k, body)]) a (all ++ [(k, body)]).length) := by
        simp only [apply, if_true, Ch.on]
        rw [List.length_append, List.length_singleton, seg_next (by omega), logB_snoc, hlog, seg_len (Nat.le_refl _), show a + 1 + (all.length - a) = all.length + 1 by omega]
      have hS2 : Sts st (apply ⟨0, true, entB (all.length + 1) k body, 0⟩ d.cur) f q hv := hS.congr (by simp [apply]) (by simp [apply])
      rw [hap]
      refine ⟨?_, hinv, ?_, fun _ => ⟨by simp, by simp; omega, q, hv, a, ?_, haq, by simp; omega, ?_⟩⟩
      · refine Outs.note (c := ⟨0, true, entB (all.length + 1) k body, 0⟩) (hout.went.more _) h.inv.went (fun t => ?_) ?_
        · rw [if_pos rfl, hcur]
          exact (good_torn (G := apply ⟨0, true, (entB (all.length + 1) k body).take t, 0⟩ d.cur) (t := t) (r := (k, body)) hb hS haq hqn hlog (by simp [apply]) (by simp [apply]) (by simp [apply, Ch.on])).less hs
        · rw [hcur]
          exact (good_clean hS2 haq (by simp; omega) hlogn).less (by simp; omega)
      · intro r hr
        rcases List.mem_append.1 hr with h5 | h5
        · exact h.small r h5
        · simp at h5; subst h5; exact hb
      · change Sts st (apply ⟨0, true, entB (all.length + 1) k body, 0⟩ d.went.cur) f q hv
        rw [hcur]; exact hS2
      · change (apply ⟨0, true, entB (all.length + 1) k body, 0⟩ d.went.cur) 0 = _
        rw [hcur]; exact hlogn
    · intro e
      have hap : Jr.ap ⟨d, all.length, s, f, false⟩ k body = ⟨d.appD 0 (entB (all.length + 1) k body), all.length, s, f, true⟩ := by
        simp only [Jr.ap, hQ, e, Bool.false_eq_true, if_false]
      rw [hap]
      refine ⟨?_, h.inv.appD 0 _, h.small, fun h => by cases h⟩
      rw [hE] at e
      simp only
      unfold Dsk.appD
      unfold Dsk.appE at e
      have hb0 : ¬ bad 0 := by decide
      rw [if_neg hb0] at e ⊢
      by_cases h3 : 1048576 < (d.cur (0 : Int).toNat).length + (entB (all.length + 1) k body).length
      · rw [if_pos h3]; exact hout
      · rw [if_neg h3] at e ⊢
        rw [if_pos e]
        exact hout.went

theorem Life.sync {all : List KB} {j : Jr} (h : Life st all j) : Life st all j.sy := by
  obtain ⟨d, l, s, f, b⟩ := j
  cases b with
  | true => simp only [Jr.sy, if_true]; exact h
  | false =>
    obtain ⟨hl, hs, q, hv, a, hS, haq, hqn, hlog⟩ := h.live rfl
    simp only at hl hs hS hlog
    subst hl
    have hout := h.outs
    simp only at hout
    have hcur : d.went.cur = d.cur := Dsk.went_cur d
    simp only [Jr.sy, Bool.false_eq_true, if_false]
    by_cases e : d.errs = 0
    · rw [if_pos e]
      have hD : d.syncD = d.went.sync := by unfold Dsk.syncD; rw [if_neg (by rw [e]; simp)]
      rw [hD]
      have hg : Good st d.went.cur all all.length := by rw [hcur]; exact good_clean hS haq hqn hlog
      refine ⟨Outs.sync hg, h.inv.went.sync, h.small, fun _ => ⟨rfl, Nat.le_refl _, q, hv, a, ?_, haq, hqn, ?_⟩⟩
      · show Sts st d.went.cur f q hv
        rw [hcur]; exact hS
      · show d.went.cur 0 = _
        rw [hcur]; exact hlog
    · rw [if_neg e]
      have hD : d.syncD = d.went := by unfold Dsk.syncD; rw [if_pos e]
      rw [hD]
      exact ⟨hout.went, h.inv.went, h.small, fun h => by cases h⟩
end
end Go.Proofs.Ytcbgnodmamcmkaa
