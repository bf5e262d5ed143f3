/- Plain disks: three files, what is unsynced, what is armed; what each call makes of one. -/
import Derived.Test.YtpngnmogjmdmhaaRows
namespace Go.Proofs.Ytpngnmogjmdmhaa

/-- An unsynced append (of data) or cut (to left bytes). -/
structure Ch where
  file : Nat
  app : Bool
  data : List UInt8
  left : Nat

def Ch.on (c : Ch) (l : List UInt8) : List UInt8 := if c.app then l ++ c.data else l.take c.left

abbrev Fs := Nat → List UInt8

def apply (c : Ch) (g : Fs) : Fs := fun i => if i = c.file then c.on (g i) else g i

def runs : List Ch → Fs → Fs
  | [], g => g
  | c :: r, g => runs r (apply c g)

/-- Each one can be carried out where it stands, and no file gets too long. -/
def Okay : List Ch → Fs → Prop
  | [], _ => True
  | c :: r, g => (c.file < 3 ∧ (c.app = false → c.left ≤ (g c.file).length) ∧ (c.on (g c.file)).length ≤ 1048576) ∧ Okay r (apply c g)

theorem runs_append (a b : List Ch) (g : Fs) : runs (a ++ b) g = runs b (runs a g) := by
  induction a generalizing g with
  | nil => rfl
  | cons c r ih => exact ih (apply c g)

theorem okay_append (a b : List Ch) (g : Fs) : Okay (a ++ b) g ↔ Okay a g ∧ Okay b (runs a g) := by
  induction a generalizing g with
  | nil => simp [Okay, runs]
  | cons c r ih => simp only [List.cons_append, Okay, runs, ih, and_assoc]

theorem Okay.take {ops : List Ch} {g : Fs} (h : Okay ops g) (n : Nat) : Okay (ops.take n) g := by
  have h2 := h
  rw [← List.take_append_drop n ops, okay_append] at h2
  exact h2.1

theorem Okay.short {ops : List Ch} {g : Fs} (h : Okay ops g) (hg : ∀ i, i < 3 → (g i).length ≤ 1048576) : ∀ i, i < 3 → (runs ops g i).length ≤ 1048576 := by
  induction ops generalizing g with
  | nil => exact hg
  | cons c r ih =>
    refine ih h.2 ?_
    intro i hi
    unfold apply
    split
    · rename_i e; subst e; exact h.1.2.2
    · exact hg i hi

/-- A disk: is the power gone; the durable files, and with all that is unsynced; the unsynced ones; how many operations are still let through (-1: not armed); with what the other one fails. -/
structure Dsk where
  down : Bool
  dur : Fs
  cur : Fs
  ops : List Ch
  arm : Int
  fail : Int
  fault : Int

structure Dsk.Inv (d : Dsk) : Prop where
  okay : Okay d.ops d.dur
  now : ∀ i, i < 3 → d.cur i = runs d.ops d.dur i
  short : ∀ i, i < 3 → (d.dur i).length ≤ 1048576
  arm0 : -1 ≤ d.arm
  arm1 : d.arm ≤ 9223372036854775807
  fail0 : -1 ≤ d.fail
  fail1 : d.fail ≤ 9223372036854775807

theorem Dsk.Inv.curShort {d : Dsk} (h : d.Inv) : ∀ i, i < 3 → (d.cur i).length ≤ 1048576 := fun i hi => by
  rw [h.now i hi]; exact h.okay.short h.short i hi

def Dsk.new : Dsk := ⟨false, fun _ => [], fun _ => [], [], -1, -1, 0⟩

theorem Dsk.new_inv : Dsk.new.Inv := ⟨trivial, fun _ _ => rfl, fun _ _ => by simp [Dsk.new], by decide, by decide, by decide, by decide⟩

def less (a : Int) : Int := if a = -1 then -1 else a - 1

/-- An operation goes by: what stops it (0: nothing), the disk then. -/
def Dsk.errs (d : Dsk) : Int := if d.down then 6 else if d.arm = 0 then 6 else if d.fail = 0 then d.fault else 0
def Dsk.went (d : Dsk) : Dsk := if d.down then d else { d with down := decide (d.arm = 0), arm := less d.arm, fail := less d.fail }

theorem less_ge {a : Int} (h : -1 ≤ a) : -1 ≤ less a := by unfold less; split <;> omega
theorem less_le {a : Int} (h : a ≤ 9223372036854775807) : less a ≤ 9223372036854775807 := by unfold less; split <;> omega

theorem Dsk.Inv.went {d : Dsk} (h : d.Inv) : d.went.Inv := by
  unfold Dsk.went
  split
  · exact h
  · exact ⟨h.okay, h.now, h.short, less_ge h.arm0, less_le h.arm1, less_ge h.fail0, less_le h.fail1⟩

/-- One more unsynced. -/
def Dsk.note (d : Dsk) (c : Ch) : Dsk := { d with cur := apply c d.cur, ops := d.ops ++ [c] }

theorem Dsk.Inv.note {d : Dsk} (h : d.Inv) (c : Ch) (h1 : c.file < 3) (h2 : c.app = false → c.left ≤ (d.cur c.file).length) (h3 : (c.on (d.cur c.file)).length ≤ 1048576) : (d.note c).Inv := by
  refine ⟨?_, ?_, h.short, h.arm0, h.arm1, h.fail0, h.fail1⟩
  · show Okay (d.ops ++ [c]) d.dur
    rw [okay_append]
    refine ⟨h.okay, ⟨h1, ?_, ?_⟩, trivial⟩
    · rw [← h.now _ h1]; exact h2
    · rw [← h.now _ h1]; exact h3
  · intro i hi
    show apply c d.cur i = runs (d.ops ++ [c]) d.dur i
    rw [runs_append]
    show apply c d.cur i = apply c (runs d.ops d.dur) i
    unfold apply
    rw [h.now i hi]

/-- All is durable. -/
def Dsk.sync (d : Dsk) : Dsk := { d with dur := d.cur, ops := [] }

theorem Dsk.Inv.sync {d : Dsk} (h : d.Inv) : d.sync.Inv := ⟨trivial, fun _ _ => rfl, h.curShort, h.arm0, h.arm1, h.fail0, h.fail1⟩

/-- What a crash keeps. -/
def kept (ops : List Ch) (keep torn : Nat) : List Ch :=
  match ops.drop keep with
  | [] => ops
  | c :: _ => ops.take keep ++ (if c.app then [{ c with data := c.data.take torn }] else [])

theorem kept_okay {ops : List Ch} {g : Fs} (h : Okay ops g) (keep torn : Nat) : Okay (kept ops keep torn) g := by
  unfold kept
  split
  · exact h
  · rename_i c r e
    have h2 := h
    rw [← List.take_append_drop keep ops, okay_append, e] at h2
    rw [okay_append]
    refine ⟨h2.1, ?_⟩
    split
    · rename_i ha
      refine ⟨⟨h2.2.1.1, ?_, ?_⟩, trivial⟩
      · simp [ha]
      · have := h2.2.1.2.2
        simp [Ch.on, ha] at this ⊢
        omega
    · trivial

def Dsk.crash (d : Dsk) (keep torn : Nat) : Dsk := ⟨false, runs (kept d.ops keep torn) d.dur, runs (kept d.ops keep torn) d.dur, [], -1, -1, 0⟩

theorem Dsk.Inv.crash {d : Dsk} (h : d.Inv) (keep torn : Nat) : (d.crash keep torn).Inv :=
  ⟨trivial, fun _ _ => rfl, (kept_okay h.okay keep torn).short h.short, by simp [Dsk.crash], by simp [Dsk.crash], by simp [Dsk.crash], by simp [Dsk.crash]⟩

end Go.Proofs.Ytpngnmogjmdmhaa
