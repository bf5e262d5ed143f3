/- What New, Read, Durable, Pending, Arm, Fail, Append, Cut and Sync do. -/
import Derived.Test.YtpngnmogjmdmhaaCarry
namespace Go.Proofs.Ytpngnmogjmdmhaa
open Go.RowKit

/-- The disk d has become d'. -/
def Now (w w' : World) (p : Nat) (x : Dx) (d' : Dsk) : Prop := ∃ x', DIs w' p x' d' ∧ Grow w p x x' ∧ Kp (Turn p x) w w'

theorem Grow.refl (w : World) (p : Nat) (x : Dx) : Grow w p x x := ⟨fun _ e => .inl e, fun _ e => .inl e⟩

theorem Grow.trans {w w1 : World} {p : Nat} {x y z : Dx} (h : Grow w p x y) (k : Grow w1 p y z) (hw : w.heap.size ≤ w1.heap.size) : Grow w p x z := by
  refine ⟨fun q e => ?_, fun q e => ?_⟩
  · rcases k.1 q e with h1 | h1
    · exact h.1 q h1
    · exact .inr (by omega)
  · rcases k.2 q e with h1 | h1
    · exact h.2 q h1
    · exact .inr (by omega)

theorem Now.then {w w1 w2 : World} {p : Nat} {x y : Dx} {d2 : Dsk} (hg : Grow w p x y) (hk : Kp (Turn p x) w w1) (h : Now w1 w2 p y d2) : Now w w2 p x d2 := by
  obtain ⟨z, hd, hg2, hk2⟩ := h
  refine ⟨z, hd, hg.trans hg2 hk.size, hk.next hk2 (fun k hkk e => ?_)⟩
  rcases hg.1 k e with h1 | h1
  · exact h1
  · omega

theorem Now.same {w w' : World} {p : Nat} {x : Dx} {d : Dsk} (h : DIs w p x d) (hb : Below w.heap.size w w') : Now w w' p x d := ⟨x, ⟨h.1.below hb, h.2⟩, Grow.refl _ _ _, Kp.of_below hb⟩

theorem blk_step {w w' : World} {p : Nat} {x : Dx} {f : Fs} {dn dn' : Bool} {a b e a' b' e' : Int} (h : DAt w p x f dn a b e) (hb : DBlk w' p true dn' x.F x.u a' b' e') (hk : Kp (fun k => k = p) w w') : DAt w' p x f dn' a' b' e' ∧ Kp (Turn p x) w w' := by
  refine ⟨⟨hb, h.six.kp hk (fun j hj k e => h.blk.ne_own (h.six.own j hj) k e), owns_kp h.row hk (fun k e => h.blk.ne_row h.row k e), fun i hi => (h.adds i hi).kp hk (fun ad e1 e2 => h.sep _ ⟨i, hi, ad, e1, rfl⟩ (.inl e2)), h.sep⟩, hk.mono (fun k _ e => .inl e)⟩

theorem admit_any (p : Nat) (x : Dx) (d : Dsk) (w : World) (hi : d.Inv) (h : DIs w p x d) :
    Calls Try.prog 32 #[.pointer (some ⟨p, 0, none⟩)] w fun e w' => e = .returned (.int .i64 d.errs) ∧ DIs w' p x d.went ∧ Kp (Turn p x) w w' := by
  refine (admit_blk p true d.down x.F x.u d.arm d.fail d.fault w hi.arm0 hi.arm1 hi.fail0 hi.fail1 h.1.blk).mono ?_
  rintro e w' ⟨rfl, hb, hk⟩
  obtain ⟨h1, h2⟩ := blk_step h.1 hb hk
  refine ⟨rfl, ⟨?_, ?_⟩, h2⟩
  · unfold Dsk.went
    cases hd : d.down with
    | true =>
      rw [hd] at h1
      simpa [hd] using h1
    | false =>
      rw [hd] at h1
      rw [if_neg (by simp)]
      show DAt w' p x d.six (decide (d.arm = 0)) (less d.arm) (less d.fail) d.fault
      simpa using h1
  · unfold Dsk.went
    split <;> exact h.2

theorem DIs.new {w : World} {p : Nat} (h : DBlk w p true false nilF (.slice none 0 0) (-1) (-1) 0) : DIs w p ⟨nilF, .slice none 0 0, []⟩ Dsk.new := by
  refine ⟨⟨h, ⟨fun j _ => ?_, fun i j _ _ _ k e => by cases e⟩, World.ownsRow_nil _ 0 79 4, fun i hi => absurd hi (by simp), ?_⟩, rfl⟩
  · unfold Dsk.six Dsk.new
    simp only [ite_self]
    exact Own.nil _ _
  · rintro k ⟨i, hi, _⟩
    exact absurd hi (by simp)

/-- All of the disk's blocks are new. -/
def Fresh' (w : World) (p : Nat) (x : Dx) : Prop := (∀ k, Turn p x k → w.heap.size ≤ k)

theorem new_any (w : World) :
    Calls Try.prog 9 #[] w fun e w' => ∃ p x, e = .returned (.pointer (some ⟨p, 0, none⟩)) ∧ DIs w' p x Dsk.new ∧ (∀ k, Turn p x k → w.heap.size ≤ k) ∧ (∀ k, ¬ Reads x k) ∧ Below w.heap.size w w' := by
  refine (new_blk w).mono ?_
  rintro e w' ⟨p, rfl, hp, hb, hbl⟩
  refine ⟨p, _, rfl, DIs.new hb, ?_, ?_, hbl⟩
  · rintro k (rfl | ⟨j, hj, e⟩ | e)
    · exact hp
    · cases e
    · cases e
  · rintro k ⟨i, hi, _⟩
    exact absurd hi (by simp)

abbrev bad (f : Int) : Prop := ¬ (0 ≤ f ∧ f < 3)

def Dsk.readE (d : Dsk) (f : Int) : Int := if bad f then 2 else if d.down then 6 else 0
def Dsk.readB (d : Dsk) (f : Int) : List UInt8 := if bad f then [] else if d.down then [] else d.cur f.toNat
def Dsk.durE (f : Int) : Int := if bad f then 2 else 0
def Dsk.durB (d : Dsk) (f : Int) : List UInt8 := if bad f then [] else d.dur f.toNat

theorem six_short {d : Dsk} (hi : d.Inv) : ∀ j, j < 6 → (d.six j).length ≤ 1048576 := by
  intro j hj
  unfold Dsk.six
  split
  · exact hi.short _ (by omega)
  · exact hi.curShort _ (by omega)

set_option maxRecDepth 100000 in
theorem read_any (p : Nat) (x : Dx) (d : Dsk) (f : Int) (w : World) (hi : d.Inv) (h : DIs w p x d) :
    Calls Try.prog 15 #[.pointer (some ⟨p, 0, none⟩), .int .i64 f] w fun e w' => ∃ b n c, e = .returned (.tuple #[.slice b n c, .int .i64 (d.readE f)]) ∧ n = (d.readB f).length ∧ Own w' w.heap.size (.slice b n c) (d.readB f) ∧ Below w.heap.size w w' := by
  unfold Dsk.readE Dsk.readB
  have c1 := h.1.blk.c1
  by_cases hf : bad f
  · rw [if_pos hf, if_pos hf]
    have hd : decide (0 ≤ f ∧ f < 3) = false := decide_eq_false hf
    go_enter Try.func15, Try.ntmps15
    go_wp2_with fail
    refine (isone_yes p _ h.1.blk.c0).mono ?_
    rintro e w1 ⟨rfl, rfl⟩
    go_wp2_with fail
    refine (isfile_any f _).mono ?_
    rintro e w1 ⟨rfl, rfl⟩
    rw [hd]
    go_wp2
    go_ret2
    exact ⟨_, _, _, rfl, rfl, Own.nil _ _, Below.refl _ _⟩
  · rw [if_neg hf, if_neg hf]
    have hf2 : 0 ≤ f ∧ f < 3 := Decidable.not_not.1 hf
    have hd : decide (0 ≤ f ∧ f < 3) = true := decide_eq_true hf2
    obtain ⟨n, rfl⟩ : ∃ n : Nat, f = n := ⟨f.toNat, by omega⟩
    have hn3 : n < 3 := by omega
    cases hdn : d.down with
    | true =>
      rw [hdn] at c1
      go_enter Try.func15, Try.ntmps15
      go_wp2_with fail
      refine (isone_yes p _ h.1.blk.c0).mono ?_
      rintro e w1 ⟨rfl, rfl⟩
      go_wp2_with fail
      refine (isfile_any _ _).mono ?_
      rintro e w1 ⟨rfl, rfl⟩
      rw [hd]
      go_wp2
      go_ret2
      exact ⟨_, _, _, rfl, rfl, Own.nil _ _, Below.refl _ _⟩
    | false =>
      rw [hdn] at c1
      have hown := h.1.six.own (2 * n + 1) (by omega)
      obtain ⟨a, cap, hv, _, hat⟩ := hown.form
      have hs := six_short hi (2 * n + 1) (by omega)
      rw [Dsk.six_cur] at hv hat hs
      have cF := h.1.blk.cF (2 * n + 1) (by omega)
      rw [hv, show 2 + (2 * n + 1) = 2 + n * 2 + 1 by omega] at cF
      have hcl := clone_sl a cap (d.cur n).length (d.cur n) w rfl (by omega) hat
      go_enter Try.func15, Try.ntmps15
      go_wp2_with fail
      refine (isone_yes p _ h.1.blk.c0).mono ?_
      rintro e w1 ⟨rfl, rfl⟩
      go_wp2_with fail
      refine (isfile_any _ _).mono ?_
      rintro e w1 ⟨rfl, rfl⟩
      rw [hd]
      go_wp2_with (go_at_call 34; refine hcl.mono ?_; rintro e w2 ⟨b, c, rfl, ho, hb⟩)
      go_ret2
      exact ⟨_, _, _, rfl, rfl, ho, hb⟩

set_option maxRecDepth 100000 in
theorem durable_any (p : Nat) (x : Dx) (d : Dsk) (f : Int) (w : World) (hi : d.Inv) (h : DIs w p x d) :
    Calls Try.prog 18 #[.pointer (some ⟨p, 0, none⟩), .int .i64 f] w fun e w' => ∃ b n c, e = .returned (.tuple #[.slice b n c, .int .i64 (Dsk.durE f)]) ∧ n = (d.durB f).length ∧ Own w' w.heap.size (.slice b n c) (d.durB f) ∧ Below w.heap.size w w' := by
  unfold Dsk.durE Dsk.durB
  by_cases hf : bad f
  · rw [if_pos hf, if_pos hf]
    have hd : decide (0 ≤ f ∧ f < 3) = false := decide_eq_false hf
    go_enter Try.func18, Try.ntmps18
    go_wp2_with fail
    refine (isone_yes p _ h.1.blk.c0).mono ?_
    rintro e w1 ⟨rfl, rfl⟩
    go_wp2_with fail
    refine (isfile_any f _).mono ?_
    rintro e w1 ⟨rfl, rfl⟩
    rw [hd]
    go_wp2
    go_ret2
    exact ⟨_, _, _, rfl, rfl, Own.nil _ _, Below.refl _ _⟩
  · rw [if_neg hf, if_neg hf]
    have hf2 : 0 ≤ f ∧ f < 3 := Decidable.not_not.1 hf
    have hd : decide (0 ≤ f ∧ f < 3) = true := decide_eq_true hf2
    obtain ⟨n, rfl⟩ : ∃ n : Nat, f = n := ⟨f.toNat, by omega⟩
    have hn3 : n < 3 := by omega
    have hown := h.1.six.own (2 * n) (by omega)
    obtain ⟨a, cap, hv, _, hat⟩ := hown.form
    have hs := six_short hi (2 * n) (by omega)
    rw [Dsk.six_dur] at hv hat hs
    have cF := h.1.blk.cF (2 * n) (by omega)
    rw [hv, show 2 + (2 * n) = 2 + n * 2 by omega] at cF
    have hcl := clone_sl a cap (d.dur n).length (d.dur n) w rfl (by omega) hat
    go_enter Try.func18, Try.ntmps18
    go_wp2_with fail
    refine (isone_yes p _ h.1.blk.c0).mono ?_
    rintro e w1 ⟨rfl, rfl⟩
    go_wp2_with fail
    refine (isfile_any _ _).mono ?_
    rintro e w1 ⟨rfl, rfl⟩
    rw [hd]
    go_wp2_with (go_at_call 34; refine hcl.mono ?_; rintro e w2 ⟨b, c, rfl, ho, hb⟩)
    go_ret2
    exact ⟨_, _, _, rfl, rfl, ho, hb⟩

theorem DIs.len {w : World} {p : Nat} {x : Dx} {d : Dsk} (h : DIs w p x d) : x.its.length = d.ops.length := by
  have := congrArg List.length h.2
  simpa [chs] using this

theorem pending_any (p : Nat) (x : Dx) (d : Dsk) (w : World) (h : DIs w p x d) :
    Calls Try.prog 16 #[.pointer (some ⟨p, 0, none⟩)] w fun e w' => e = .returned (.int .i64 (d.ops.length : Int)) ∧ w' = w := by
  obtain ⟨a, c, hv, _⟩ := owns_form h.1.row
  have c8 := h.1.blk.c8
  rw [hv, h.len] at c8
  go_enter Try.func16, Try.ntmps16
  go_wp2_with fail
  refine (isone_yes p _ h.1.blk.c0).mono ?_
  rintro e w1 ⟨rfl, rfl⟩
  go_wp2
  go_ret
  exact ⟨rfl, rfl⟩
end Go.Proofs.Ytpngnmogjmdmhaa
