/- What Arm, Fail, Append, Cut and Sync do. -/
import Derived.Test.YtpngnmogjmdmhaaOps
namespace Go.Proofs.Ytpngnmogjmdmhaa
open Go.RowKit

def Dsk.armE (n : Int) : Int := if n < 0 then 2 else 0
def Dsk.armD (d : Dsk) (n : Int) : Dsk := if n < 0 then d else { d with arm := n }
def Dsk.failE (n e : Int) : Int := if n < 0 ∨ (e ≠ 4 ∧ e ≠ 5) then 2 else 0
def Dsk.failD (d : Dsk) (n e : Int) : Dsk := if n < 0 ∨ (e ≠ 4 ∧ e ≠ 5) then d else { d with fail := n, fault := e }
def Dsk.appE (d : Dsk) (f : Int) (b : List UInt8) : Int := if bad f then 2 else if 1048576 < (d.cur f.toNat).length + b.length then 5 else d.errs
def Dsk.appD (d : Dsk) (f : Int) (b : List UInt8) : Dsk := if bad f then d else if 1048576 < (d.cur f.toNat).length + b.length then d else if d.errs ≠ 0 then d.went else d.went.note ⟨f.toNat, true, b, 0⟩
def Dsk.cutE (d : Dsk) (f n : Int) : Int := if bad f then 2 else if n < 0 ∨ ((d.cur f.toNat).length : Int) < n then 2 else d.errs
def Dsk.cutD (d : Dsk) (f n : Int) : Dsk := if bad f then d else if n < 0 ∨ ((d.cur f.toNat).length : Int) < n then d else if d.errs ≠ 0 then d.went else d.went.note ⟨f.toNat, false, [], n.toNat⟩
def Dsk.syncD (d : Dsk) : Dsk := if d.errs ≠ 0 then d.went else d.went.sync

theorem arm_any (p : Nat) (x : Dx) (d : Dsk) (n : Int) (w : World) (h : DIs w p x d) :
    Calls Try.prog 17 #[.pointer (some ⟨p, 0, none⟩), .int .i64 n] w fun e w' => e = .returned (.int .i64 (Dsk.armE n)) ∧ Now w w' p x (d.armD n) := by
  unfold Dsk.armE Dsk.armD
  by_cases hn : n < 0
  · rw [if_pos hn, if_pos hn]
    have hd : decide (n < 0) = true := decide_eq_true hn
    go_enter Try.func17, Try.ntmps17
    go_wp2_with fail
    refine (isone_yes p _ h.1.blk.c0).mono ?_
    rintro e w1 ⟨rfl, rfl⟩
    go_wp2
    go_ret
    exact ⟨rfl, Now.same h (Below.refl _ _)⟩
  · rw [if_neg hn, if_neg hn]
    have hd : decide (n < 0) = false := decide_eq_false hn
    go_enter Try.func17, Try.ntmps17
    go_wp2_with fail
    refine (isone_yes p _ h.1.blk.c0).mono ?_
    rintro e w1 ⟨rfl, rfl⟩
    go_wp2_with fail
    refine (store_any p 9 n _ _ h.1.blk.c9 (h.1.blk.free 9)).mono ?_
    rintro e w2 ⟨rfl, rfl⟩
    have hb := blk_step h.1 (h.1.blk.set9 n) (Kp.setCell (S := fun k => k = p) (p := ⟨p, 9, none⟩) (Kp.refl _ _) rfl _)
    replace hb := hid hb
    go_wp2
    go_ret
    exact ⟨rfl, x, ⟨hb.out.1, h.2⟩, Grow.refl _ _ _, hb.out.2⟩

theorem fail_any (p : Nat) (x : Dx) (d : Dsk) (n ec : Int) (w : World) (h : DIs w p x d) :
    Calls Try.prog 19 #[.pointer (some ⟨p, 0, none⟩), .int .i64 n, .int .i64 ec] w fun e w' => e = .returned (.int .i64 (Dsk.failE n ec)) ∧ Now w w' p x (d.failD n ec) := by
  unfold Dsk.failE Dsk.failD
  by_cases hb : n < 0 ∨ (ec ≠ 4 ∧ ec ≠ 5)
  · rw [if_pos hb, if_pos hb]
    have hb' := hid hb
    by_cases hn : n < 0
    · have hd : decide (n < 0) = true := decide_eq_true hn
      clear hb
      go_enter Try.func19, Try.ntmps19
      go_wp2_with fail
      refine (isone_yes p _ h.1.blk.c0).mono ?_
      rintro e w1 ⟨rfl, rfl⟩
      go_wp2
      go_ret
      exact ⟨rfl, Now.same h (Below.refl _ _)⟩
    · have hd : decide (n < 0) = false := decide_eq_false hn
      have h4 : ec ≠ 4 ∧ ec ≠ 5 := hb.resolve_left hn
      have h4b : (ec != 4) = true := bne_iff_ne.2 h4.1
      have h5b : (ec != 5) = true := bne_iff_ne.2 h4.2
      clear hb
      go_enter Try.func19, Try.ntmps19
      go_wp2_with fail
      refine (isone_yes p _ h.1.blk.c0).mono ?_
      rintro e w1 ⟨rfl, rfl⟩
      go_wp2
      go_ret
      exact ⟨rfl, Now.same h (Below.refl _ _)⟩
  · rw [if_neg hb, if_neg hb]
    have hn : ¬ n < 0 := fun e => hb (.inl e)
    have hd : decide (n < 0) = false := decide_eq_false hn
    have h1 := h.1.blk.set10 n
    have k1 : Kp (fun k => k = p) w (w.setCell ⟨p, 10, none⟩ (.int .i64 n)) := Kp.setCell (S := fun k => k = p) (p := ⟨p, 10, none⟩) (Kp.refl _ _) rfl _
    have hcase : ec = 4 ∨ ec = 5 := by
      by_cases h4 : ec = 4
      · exact .inl h4
      · exact .inr (Decidable.byContradiction fun h5 => hb (.inr ⟨h4, h5⟩))
    clear hb
    rcases hcase with rfl | rfl
    all_goals
      go_enter Try.func19, Try.ntmps19
      go_wp2_with fail
      refine (isone_yes p _ h.1.blk.c0).mono ?_
      rintro e w1 ⟨rfl, rfl⟩
      go_wp2_with fail
      refine (store_any p 10 n _ _ h.1.blk.c10 (h.1.blk.free 10)).mono ?_
      rintro e w2 ⟨rfl, rfl⟩
      generalize w1.setCell ⟨p, 10, none⟩ (.int .i64 n) = w2 at *
      have c11 := h1.c11
      have f11 := h1.free 11
      have hb := fun ev => blk_step h.1 (h1.set11 ev) (k1.setCell (p := ⟨p, 11, none⟩) rfl _)
      replace hb := hid hb
      go_wp2
      go_ret
      exact ⟨rfl, x, ⟨(hb.out _).1, h.2⟩, Grow.refl _ _ _, (hb.out _).2⟩

theorem owns_addr {w : World} {base e size n m c : Nat} {a : Option Addr} {xs : List Value} (h : w.ownsRow base e size (.slice a m c) n xs) : ∀ ad, a = some ad → (Value.slice a m c).ownBlock = some ad.block := by
  intro ad e
  rcases h.2 with ⟨h5, _⟩ | ⟨g, cap', cur, h5, _⟩
  · simp only [Value.slice.injEq] at h5
    rw [h5.1] at e
    cases e
  · simp only [Value.slice.injEq] at h5
    rw [h5.1] at e
    cases e
    rw [h5.1]
    rfl

/-- The disk's own list of changes, as carryOut takes it. -/
theorem own_list {w : World} {p : Nat} {x : Dx} {f : Fs} {dn : Bool} {a b e : Int} (h : DAt w p x f dn a b e) {ca : Option Addr} {n cap : Nat} (hv : x.u = .slice ca n cap) :
    CAt w ca (x.its.flatMap CIt.cells) ∧ ∀ ad, ca = some ad → ad.block < w.heap.size ∧ ¬ SlotT p x.F ad.block := by
  have hrow := h.row
  rw [hv] at hrow
  refine ⟨owns_cat hrow, fun ad e => ?_⟩
  have hb := owns_addr hrow ad e
  refine ⟨(World.ownsRow.lt hrow _ hb).2, ?_⟩
  rintro (e2 | ⟨j, hj, e2⟩)
  · exact h.blk.ne_row hrow _ hb e2
  · exact own_row (h.six.own j hj) hrow _ e2 hb

theorem Dsk.went_cur (d : Dsk) : d.went.cur = d.cur := by unfold Dsk.went; split <;> rfl
theorem Dsk.went_dur (d : Dsk) : d.went.dur = d.dur := by unfold Dsk.went; split <;> rfl
theorem Dsk.went_ops (d : Dsk) : d.went.ops = d.ops := by unfold Dsk.went; split <;> rfl

theorem carried_sync {d : Dsk} {its : List CIt} (hi : d.Inv) (h : chs its = d.ops) : ∀ j, j < 6 → carried d.six (chs its) j = d.sync.six j := by
  intro j hj
  have e : (fun i => d.six (2 * i)) = d.dur := by funext i; exact Dsk.six_dur _ _
  unfold carried
  rw [e, h]
  unfold Dsk.six
  by_cases h2 : j % 2 = 0
  · rw [if_pos h2, if_pos h2]
    exact (hi.now _ (by omega)).symm
  · rw [if_neg h2, if_neg h2, if_neg h2]
    rfl

theorem DAt.ext {w : World} {p : Nat} {x : Dx} {f g : Fs} {dn : Bool} {a b e : Int} (h : DAt w p x f dn a b e) (hfg : ∀ j, j < 6 → f j = g j) : DAt w p x g dn a b e :=
  ⟨h.blk, ⟨fun j hj => hfg j hj ▸ h.six.own j hj, h.six.apart⟩, h.row, h.adds, h.sep⟩

set_option maxRecDepth 100000 in
theorem sync_any (p : Nat) (x : Dx) (d : Dsk) (w : World) (hi : d.Inv) (h : DIs w p x d) (hn : d.ops.length ≤ 1000000) :
    Calls Try.prog 11 #[.pointer (some ⟨p, 0, none⟩)] w fun e w' => e = .returned (.int .i64 d.errs) ∧ Now w w' p x d.syncD := by
  unfold Dsk.syncD
  by_cases he : d.errs ≠ 0
  · rw [if_pos he]
    have hd : (d.errs != 0) = true := bne_iff_ne.2 he
    go_enter Try.func11, Try.ntmps11
    go_wp2_with fail
    refine (isone_yes p _ h.1.blk.c0).mono ?_
    rintro e w1 ⟨rfl, rfl⟩
    go_wp2_with fail
    refine (admit_any p x d _ hi h).mono ?_
    rintro e w2 ⟨rfl, h2, k2⟩
    go_wp2
    go_ret
    exact ⟨rfl, x, h2, Grow.refl _ _ _, k2⟩
  · rw [if_neg he]
    have he0 : d.errs = 0 := Decidable.not_not.1 he
    go_enter Try.func11, Try.ntmps11
    go_wp2_with fail
    refine (isone_yes p _ h.1.blk.c0).mono ?_
    rintro e w1 ⟨rfl, rfl⟩
    go_wp2_with fail
    refine (admit_any p x d _ hi h).mono ?_
    rintro e w2 ⟨rfl, h2, k2⟩
    rw [he0]
    obtain ⟨ca, cap, hv, _⟩ := owns_form h2.1.row
    have hlen := h2.len
    rw [Dsk.went_ops] at hlen
    have c8 := h2.1.blk.c8
    rw [hv] at c8
    obtain ⟨hl1, hl2⟩ := own_list h2.1 hv
    have hok : Okay (chs x.its) (fun i => d.went.six (2 * i)) := by
      have := hi.went.okay
      rw [← h2.2] at this
      have e : (fun i => d.went.six (2 * i)) = d.went.dur := by funext i; exact Dsk.six_dur _ _
      rw [e]; exact this
    have hca := carry_any p x d.went.six d.went.down d.went.arm d.went.fail d.went.fault ca x.its.length cap x.its w2 rfl (by omega) h2.1 hl1 hl2 (fun i hii => ⟨h2.1.adds i hii, fun ad e ht => h2.1.sep _ ⟨i, hii, ad, e, rfl⟩ (slotT_turn ht)⟩) hok
    replace hlen := hid hlen
    replace hv := hid hv
    replace he0 := hid he0
    clear he
    go_wp2_with (go_at_call 35; refine hca.mono ?_; rintro e w3 ⟨rfl, F, h3, hs3, k3⟩)
    go_ret
    refine ⟨by rw [he0.out]; rfl, Now.then (Grow.refl _ _ _) k2 ⟨⟨F, .slice none 0 0, []⟩, ⟨?_, rfl⟩, ⟨?_, ?_⟩, k3.mono (fun k _ e => slotT_turn e)⟩⟩
    · have e := carried_sync hi.went h2.2
      exact h3.ext e
    · rintro k (e | e | e)
      · exact .inl (.inl e)
      · rcases hs3 k (.inr e) with h4 | h4
        · exact .inl (slotT_turn h4)
        · exact .inr h4
      · cases e
    · rintro k ⟨i, hii, _⟩
      exact absurd hii (by simp)

theorem Now.note {w0 w w' : World} {p : Nat} {x : Dx} {d : Dsk} (i : CIt) (hk : Kp (Turn p x) w0 w) (h : ∃ x', DIs w' p x' (d.note i.c) ∧ (∀ k, Turn p x' k → Turn p x k ∨ w.heap.size ≤ k) ∧ x'.its = x.its ++ [i] ∧ Kp (Turn p x) w w') (hi : ∀ ad, i.a = some ad → w0.heap.size ≤ ad.block) : Now w0 w' p x (d.note i.c) := by
  obtain ⟨x', h1, h2, h3, h4⟩ := h
  have hz := hk.size
  refine ⟨x', h1, ⟨fun k e => ?_, ?_⟩, hk.trans h4⟩
  · rcases h2 k e with h5 | h5
    · exact .inl h5
    · exact .inr (by omega)
  · rintro k ⟨j, hj, ad, e, rfl⟩
    rw [h3] at hj
    rcases List.mem_append.1 hj with h5 | h5
    · exact .inl ⟨j, h5, ad, e, rfl⟩
    · rw [List.mem_singleton] at h5
      subst h5
      exact .inr (hi ad e)

theorem addr_lt {w : World} {base : Nat} {a : Option Addr} {n c : Nat} {l : List UInt8} (h : Own w base (.slice a n c) l) : ∀ ad, a = some ad → base ≤ ad.block ∧ ad.block < w.heap.size := by
  intro ad e
  exact h.lt _ (owns_addr h ad e)

set_option maxRecDepth 100000 in
set_option maxHeartbeats 1000000 in
theorem append_any (p : Nat) (x : Dx) (d : Dsk) (f : Int) (a : Option Addr) (len cap : Nat) (b : List UInt8) (w : World) (hi : d.Inv) (h : DIs w p x d) (hn : d.ops.length ≤ 1000000) (hl : b.length = len) (hlen : len ≤ 140737488355328) (hat : At w a b) (hsep : ∀ ad, a = some ad → ¬ Turn p x ad.block) :
    Calls Try.prog 10 #[.pointer (some ⟨p, 0, none⟩), .int .i64 f, .slice a len cap] w fun e w' => e = .returned (.int .i64 (d.appE f b)) ∧ Now w w' p x (d.appD f b) := by
  unfold Dsk.appE Dsk.appD
  by_cases hf : bad f
  · rw [if_pos hf, if_pos hf]
    have hd : decide (0 ≤ f ∧ f < 3) = false := decide_eq_false hf
    go_enter Try.func10, Try.ntmps10
    go_wp2_with fail
    refine (isone_yes p _ h.1.blk.c0).mono ?_
    rintro e w1 ⟨rfl, rfl⟩
    go_wp2_with fail
    refine (isfile_any f _).mono ?_
    rintro e w1 ⟨rfl, rfl⟩
    rw [hd]
    go_wp2
    go_ret
    exact ⟨rfl, Now.same h (Below.refl _ _)⟩
  · rw [if_neg hf, if_neg hf]
    have hf2 : 0 ≤ f ∧ f < 3 := Decidable.not_not.1 hf
    have hd : decide (0 ≤ f ∧ f < 3) = true := decide_eq_true hf2
    obtain ⟨n, rfl⟩ : ∃ n : Nat, f = n := ⟨f.toNat, by omega⟩
    have hn3 : n < 3 := by omega
    have hown := h.1.six.own (2 * n + 1) (by omega)
    obtain ⟨fa, fcap, hv, _, _⟩ := hown.form
    have hs := six_short hi (2 * n + 1) (by omega)
    rw [Dsk.six_cur] at hv hs
    have cF := h.1.blk.cF (2 * n + 1) (by omega)
    rw [hv, show 2 + (2 * n + 1) = 2 + n * 2 + 1 by omega] at cF
    rw [Int.toNat_natCast]
    subst hl
    replace hv := hid hv
    by_cases hbig : 1048576 < (d.cur n).length + b.length
    · rw [if_pos hbig, if_pos hbig]
      have hg : decide ((b.length : Int) > 1048576 - ((d.cur n).length : Int)) = true := decide_eq_true (by omega)
      go_enter Try.func10, Try.ntmps10
      go_wp2_with fail
      refine (isone_yes p _ h.1.blk.c0).mono ?_
      rintro e w1 ⟨rfl, rfl⟩
      go_wp2_with fail
      refine (isfile_any _ _).mono ?_
      rintro e w1 ⟨rfl, rfl⟩
      rw [hd]
      go_wp2
      go_ret
      exact ⟨rfl, Now.same h (Below.refl _ _)⟩
    · rw [if_neg hbig, if_neg hbig]
      have hg : decide ((b.length : Int) > 1048576 - ((d.cur n).length : Int)) = false := decide_eq_false (by omega)
      by_cases he : d.errs ≠ 0
      · rw [if_pos he]
        have hde : (d.errs != 0) = true := bne_iff_ne.2 he
        go_enter Try.func10, Try.ntmps10
        go_wp2_with fail
        refine (isone_yes p _ h.1.blk.c0).mono ?_
        rintro e w1 ⟨rfl, rfl⟩
        go_wp2_with fail
        refine (isfile_any _ _).mono ?_
        rintro e w1 ⟨rfl, rfl⟩
        rw [hd]
        go_wp2_with fail
        refine (admit_any p x d _ hi h).mono ?_
        rintro e w2 ⟨rfl, h2, k2⟩
        go_wp2
        go_ret
        exact ⟨rfl, x, h2, Grow.refl _ _ _, k2⟩
      · rw [if_neg he]
        have he0 : d.errs = 0 := Decidable.not_not.1 he
        clear he
        go_enter Try.func10, Try.ntmps10
        go_wp2_with fail
        refine (isone_yes p _ h.1.blk.c0).mono ?_
        rintro e w1 ⟨rfl, rfl⟩
        go_wp2_with fail
        refine (isfile_any _ _).mono ?_
        rintro e w1 ⟨rfl, rfl⟩
        rw [hd]
        go_wp2_with fail
        refine (admit_any p x d _ hi h).mono ?_
        rintro e w2 ⟨rfl, h2, k2⟩
        rw [he0]
        replace he0 := hid he0
        go_wp2_with fail
        refine (clone_sl a cap b.length b _ rfl hlen (hat.kp k2 hsep)).mono ?_
        rintro e w3 ⟨a3, c3, rfl, ho3, hb3⟩
        have h3 : DIs w3 p x d.went := ⟨h2.1.below hb3, h2.2⟩
        have hlt3 := addr_lt ho3
        have hT3 : ∀ ad, a3 = some ad → ¬ Turn p x ad.block := fun ad e ht => by
          have h5 := (hlt3 ad e).1
          have h6 := h2.1.turn_lt _ ht
          omega
        obtain ⟨_, _, he3, hcap3, hat3⟩ := ho3.form
        simp only [Value.slice.injEq] at he3
        obtain ⟨rfl, _, rfl⟩ := he3
        have hnote := note_any p x d.went ⟨⟨n, true, b, 0⟩, a3, c3⟩ w3 h3 ⟨⟨hat3, hcap3⟩, fun ad e => (hlt3 ad e).2⟩ hT3 hn3 (fun e => by cases e) (by rw [Dsk.went_cur]; simp [Ch.on]; omega) (by rw [Dsk.went_ops]; omega)
        unfold CIt.agg CIt.val at hnote
        go_wp2_with (go_at_call 33; refine hnote.mono ?_; rintro e w4 ⟨rfl, h4⟩)
        go_ret
        exact ⟨by rw [he0.out]; rfl, Now.note ⟨⟨n, true, b, 0⟩, a3, c3⟩ (k2.then hb3) h4 (fun ad e => Nat.le_trans k2.size (hlt3 ad e).1)⟩

set_option maxRecDepth 100000 in
set_option maxHeartbeats 1000000 in
theorem cut_any (p : Nat) (x : Dx) (d : Dsk) (f m : Int) (w : World) (hi : d.Inv) (h : DIs w p x d) (hn : d.ops.length ≤ 1000000) :
    Calls Try.prog 12 #[.pointer (some ⟨p, 0, none⟩), .int .i64 f, .int .i64 m] w fun e w' => e = .returned (.int .i64 (d.cutE f m)) ∧ Now w w' p x (d.cutD f m) := by
  unfold Dsk.cutE Dsk.cutD
  by_cases hf : bad f
  · rw [if_pos hf, if_pos hf]
    have hd : decide (0 ≤ f ∧ f < 3) = false := decide_eq_false hf
    go_enter Try.func12, Try.ntmps12
    go_wp2_with fail
    refine (isone_yes p _ h.1.blk.c0).mono ?_
    rintro e w1 ⟨rfl, rfl⟩
    go_wp2_with fail
    refine (isfile_any f _).mono ?_
    rintro e w1 ⟨rfl, rfl⟩
    rw [hd]
    go_wp2
    go_ret
    exact ⟨rfl, Now.same h (Below.refl _ _)⟩
  · rw [if_neg hf, if_neg hf]
    have hf2 : 0 ≤ f ∧ f < 3 := Decidable.not_not.1 hf
    have hd : decide (0 ≤ f ∧ f < 3) = true := decide_eq_true hf2
    obtain ⟨n, rfl⟩ : ∃ n : Nat, f = n := ⟨f.toNat, by omega⟩
    have hn3 : n < 3 := by omega
    have hown := h.1.six.own (2 * n + 1) (by omega)
    obtain ⟨fa, fcap, hv, _, _⟩ := hown.form
    have hs := six_short hi (2 * n + 1) (by omega)
    rw [Dsk.six_cur] at hv hs
    have cF := h.1.blk.cF (2 * n + 1) (by omega)
    rw [hv, show 2 + (2 * n + 1) = 2 + n * 2 + 1 by omega] at cF
    rw [Int.toNat_natCast]
    replace hv := hid hv
    by_cases hbad : m < 0 ∨ ((d.cur n).length : Int) < m
    · rw [if_pos hbad, if_pos hbad]
      by_cases hm : m < 0
      · have hg : decide (m < 0) = true := decide_eq_true hm
        clear hbad
        go_enter Try.func12, Try.ntmps12
        go_wp2_with fail
        refine (isone_yes p _ h.1.blk.c0).mono ?_
        rintro e w1 ⟨rfl, rfl⟩
        go_wp2_with fail
        refine (isfile_any _ _).mono ?_
        rintro e w1 ⟨rfl, rfl⟩
        rw [hd]
        go_wp2
        go_ret
        exact ⟨rfl, Now.same h (Below.refl _ _)⟩
      · have hg : decide (m < 0) = false := decide_eq_false hm
        have hlt : ((d.cur n).length : Int) < m := hbad.resolve_left hm
        have hg2 : decide (m > ((d.cur n).length : Int)) = true := decide_eq_true hlt
        clear hbad
        go_enter Try.func12, Try.ntmps12
        go_wp2_with fail
        refine (isone_yes p _ h.1.blk.c0).mono ?_
        rintro e w1 ⟨rfl, rfl⟩
        go_wp2_with fail
        refine (isfile_any _ _).mono ?_
        rintro e w1 ⟨rfl, rfl⟩
        rw [hd]
        go_wp2
        go_ret
        exact ⟨rfl, Now.same h (Below.refl _ _)⟩
    · rw [if_neg hbad, if_neg hbad]
      have hm : ¬ m < 0 := fun e => hbad (.inl e)
      have hm2 : ¬ ((d.cur n).length : Int) < m := fun e => hbad (.inr e)
      have hg : decide (m < 0) = false := decide_eq_false hm
      have hg2 : decide (m > ((d.cur n).length : Int)) = false := decide_eq_false hm2
      obtain ⟨q, rfl⟩ : ∃ q : Nat, m = q := ⟨m.toNat, by omega⟩
      rw [Int.toNat_natCast]
      clear hbad
      by_cases he : d.errs ≠ 0
      · rw [if_pos he]
        have hde : (d.errs != 0) = true := bne_iff_ne.2 he
        go_enter Try.func12, Try.ntmps12
        go_wp2_with fail
        refine (isone_yes p _ h.1.blk.c0).mono ?_
        rintro e w1 ⟨rfl, rfl⟩
        go_wp2_with fail
        refine (isfile_any _ _).mono ?_
        rintro e w1 ⟨rfl, rfl⟩
        rw [hd]
        go_wp2_with fail
        refine (admit_any p x d _ hi h).mono ?_
        rintro e w2 ⟨rfl, h2, k2⟩
        go_wp2
        go_ret
        exact ⟨rfl, x, h2, Grow.refl _ _ _, k2⟩
      · rw [if_neg he]
        have he0 : d.errs = 0 := Decidable.not_not.1 he
        clear he
        go_enter Try.func12, Try.ntmps12
        go_wp2_with fail
        refine (isone_yes p _ h.1.blk.c0).mono ?_
        rintro e w1 ⟨rfl, rfl⟩
        go_wp2_with fail
        refine (isfile_any _ _).mono ?_
        rintro e w1 ⟨rfl, rfl⟩
        rw [hd]
        go_wp2_with fail
        refine (admit_any p x d _ hi h).mono ?_
        rintro e w2 ⟨rfl, h2, k2⟩
        rw [he0]
        replace he0 := hid he0
        have hnote := note_any p x d.went ⟨⟨n, false, [], q⟩, none, 0⟩ w2 h2 ⟨⟨at_nil _ _, Nat.le_refl _⟩, fun ad e => by cases e⟩ (fun ad e => by cases e) hn3 (fun _ => by rw [Dsk.went_cur]; simp only; omega) (by rw [Dsk.went_cur]; simp [Ch.on]; omega) (by rw [Dsk.went_ops]; omega)
        unfold CIt.agg CIt.val at hnote
        go_wp2_with (go_at_call 33; refine hnote.mono ?_; rintro e w4 ⟨rfl, h4⟩)
        go_ret
        exact ⟨by rw [he0.out]; rfl, Now.note ⟨⟨n, false, [], q⟩, none, 0⟩ k2 h4 (fun ad e => by cases e)⟩
end Go.Proofs.Ytpngnmogjmdmhaa
