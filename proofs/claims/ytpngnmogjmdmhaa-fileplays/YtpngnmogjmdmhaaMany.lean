/- Several disks beside each other; a slice of numbers. -/
import Derived.Test.YtpngnmogjmdmhaaCall
import Derived.Test.YtpngnmogjmdmhaaCopy
namespace Go.Proofs.Ytpngnmogjmdmhaa
open Go.RowKit

def IAt (w : World) (a : Option Addr) (n : Nat) : Prop := 0 < n → ∃ b o, a = some ⟨b, o, none⟩ ∧ ∀ j, j < n → ∃ z : Int, w.cell? ⟨b, o + j, none⟩ = some (.int .i64 z)

theorem IAt.below {w w' : World} {a : Option Addr} {n : Nat} (h : IAt w a n) (hb : Below w.heap.size w w') : IAt w' a n := by
  intro hn
  obtain ⟨b, o, rfl, hc⟩ := h hn
  refine ⟨b, o, rfl, fun j hj => ?_⟩
  obtain ⟨z, hz⟩ := hc j hj
  refine ⟨z, ?_⟩
  rw [hb.cell (p := ⟨b, o + j, none⟩) (World.block_lt_of_cell? w _ hz)]
  exact hz

/-- What the one may turn is nothing of the other's. -/
def Apart (p1 : Nat) (x1 : Dx) (p2 : Nat) (x2 : Dx) : Prop := ∀ k, (Turn p1 x1 k → ¬ Turn p2 x2 k ∧ ¬ Reads x2 k) ∧ (Turn p2 x2 k → ¬ Reads x1 k)

theorem Apart.symm {p1 : Nat} {x1 : Dx} {p2 : Nat} {x2 : Dx} (h : Apart p1 x1 p2 x2) : Apart p2 x2 p1 x1 := fun k => ⟨fun h2 => ⟨fun h1 => ((h k).1 h1).1 h2, (h k).2 h2⟩, fun h1 => ((h k).1 h1).2⟩

theorem Apart.keep {w : World} {p1 : Nat} {x1 x1' : Dx} {p2 : Nat} {x2 : Dx} {d2 : Dsk} (h : Apart p1 x1 p2 x2) (hg : Grow w p1 x1 x1') (h2 : DIs w p2 x2 d2) : Apart p1 x1' p2 x2 := by
  refine fun k => ⟨fun h1 => ?_, fun h3 hr => ?_⟩
  · rcases hg.1 k h1 with h4 | h4
    · exact (h k).1 h4
    · exact ⟨fun e => by have := h2.1.turn_lt k e; omega, fun e => by have := h2.1.reads_lt k e; omega⟩
  · rcases hg.2 k hr with h4 | h4
    · exact (h k).2 h3 h4
    · have := h2.1.turn_lt k h3; omega

theorem Apart.sole {base : Nat} {w w' : World} {p1 : Nat} {x1 : Dx} {p2 : Nat} {x2 : Dx} {d2 : Dsk} (h : Apart p1 x1 p2 x2) (hk : Kp (Turn p1 x1) w w') (h2 : Sole base w p2 x2 d2) : Sole base w' p2 x2 d2 :=
  ⟨⟨h2.is.1.kp hk (fun k e1 e2 => ((h k).1 e2).1 e1) (fun k e1 e2 => ((h k).1 e2).2 e1), h2.is.2⟩, h2.turn, h2.reads, h2.inv⟩

theorem copy_sole (base p : Nat) (x : Dx) (d : Dsk) (w : World) (hs : Sole base w p x d) (hbase : base ≤ w.heap.size) (hn : d.ops.length ≤ 1000000) :
    Calls Try.prog 13 #[.pointer (some ⟨p, 0, none⟩)] w fun e w' => ∃ p' x', e = .returned (.pointer (some ⟨p', 0, none⟩)) ∧ Sole base w' p' x' d ∧ Apart p' x' p x ∧ (∀ k, Turn p' x' k → w.heap.size ≤ k) ∧ (∀ k, Reads x' k → Reads x k) ∧ Below w.heap.size w w' := by
  refine (copy_disk p x d w hs.inv hs.is hn).mono ?_
  rintro e w' ⟨p', x', rfl, h1, h2, h3, hb⟩
  refine ⟨p', x', rfl, ⟨h1, fun k e => Nat.le_trans hbase (h2 k e), fun k e => hs.reads k (h3 k e), hs.inv⟩, ?_, h2, h3, hb⟩
  refine fun k => ⟨fun e => ⟨fun e2 => ?_, fun e2 => ?_⟩, fun e e2 => hs.is.1.sep k (h3 k e2) e⟩
  · have := h2 k e; have := hs.is.1.turn_lt k e2; omega
  · have := h2 k e; have := hs.is.1.reads_lt k e2; omega

/-- A later copy is apart from an earlier one. -/
theorem apart_later {base : Nat} {w : World} {p1 : Nat} {x1 : Dx} {p2 : Nat} {x2 : Dx} {p : Nat} {x : Dx} {d1 : Dsk} (h1 : Sole base w p1 x1 d1) (ha : Apart p1 x1 p x) (ht : ∀ k, Turn p2 x2 k → w.heap.size ≤ k) (hr : ∀ k, Reads x2 k → Reads x k) : Apart p1 x1 p2 x2 := by
  refine fun k => ⟨fun e => ⟨fun e2 => ?_, fun e2 => ((ha k).1 e).2 (hr k e2)⟩, fun e e2 => ?_⟩
  · have := h1.is.1.turn_lt k e; have := ht k e2; omega
  · have := h1.is.1.reads_lt k e2; have := ht k e; omega

theorem all_sole (base p : Nat) (x : Dx) (d : Dsk) (w : World) (hs : Sole base w p x d) (s0 s1 s2 : ByteArray) (hv : d.val = .agg #[.string s0, .string s1, .string s2]) :
    Calls Try.prog 25 #[.pointer (some ⟨p, 0, none⟩)] w fun e w' => e = .returned (.agg #[.string s0, .string s1, .string s2]) ∧ Below w.heap.size w w' := by
  rw [← hv]
  exact all_any p x d w hs.inv hs.is

/-- What all tells of files like these. -/
def tv (f : Fs) : Value := .agg #[.string (txt (f 0)), .string (txt (f 1)), .string (txt (f 2))]

theorem Calm.val {d : Dsk} (h : Calm d) : d.val = tv d.cur := by
  unfold Dsk.val tv
  rw [← h.readB 0 (by omega), ← h.readB 1 (by omega), ← h.readB 2 (by omega)]
  rfl

theorem tv_ext {f g : Fs} (h : ∀ i, i < 3 → f i = g i) : tv f = tv g := by
  unfold tv
  rw [h 0 (by omega), h 1 (by omega), h 2 (by omega)]

theorem Calm.new : Calm Dsk.new := ⟨rfl, rfl, rfl⟩
theorem Calm.syncD {d : Dsk} (h : Calm d) : d.syncD = d.sync := by
  unfold Dsk.syncD
  rw [h.errs, h.went]
  rfl
theorem Calm.sync {d : Dsk} (h : Calm d) : Calm d.sync := ⟨h.down, h.arm, h.fail⟩

theorem Calm.done {d d' : Dsk} (h : Calm d) (hd : Done d d') : Calm d' ∧ d'.dur = d.dur ∧ d'.ops.length ≤ d.ops.length + 1 := by
  rcases hd with ⟨f, n, hf, _, rfl⟩ | ⟨f, l, hf, _, rfl⟩
  · refine ⟨?_, ?_, d.cutD_few _ _⟩
    · unfold Dsk.cutD
      rw [h.errs, h.went]
      split
      · exact h
      · split
        · exact h
        · exact ⟨h.down, h.arm, h.fail⟩
    · unfold Dsk.cutD
      rw [h.errs, h.went]
      split
      · rfl
      · split <;> rfl
  · refine ⟨?_, ?_, d.appD_few _ _⟩
    · unfold Dsk.appD
      rw [h.errs, h.went]
      split
      · exact h
      · split
        · exact h
        · exact ⟨h.down, h.arm, h.fail⟩
    · unfold Dsk.appD
      rw [h.errs, h.went]
      split
      · rfl
      · split <;> rfl

theorem crash_calm (d : Dsk) (k t : Nat) : Calm (d.crash k t) := ⟨rfl, rfl, rfl⟩

theorem crash_keep {d : Dsk} (hi : d.Inv) (k t : Nat) (hk : d.ops.length ≤ k) : ∀ i, i < 3 → (d.crash k t).cur i = d.cur i := by
  intro i hi3
  show runs (kept d.ops k t) d.dur i = d.cur i
  have : kept d.ops k t = d.ops := by
    unfold kept
    rw [List.drop_eq_nil_of_le hk]
  rw [this, hi.now i hi3]

theorem crash_none (d : Dsk) : ∀ i, i < 3 → (d.crash 0 0).cur i = d.dur i := by
  intro i _
  show runs (kept d.ops 0 0) d.dur i = d.dur i
  unfold kept
  rw [List.drop_zero]
  cases d.ops with
  | nil => rfl
  | cons c r =>
    simp only [List.take_zero, List.nil_append]
    split
    · rename_i ha
      simp only [runs, apply]
      split
      · simp [Ch.on, ha]
      · rfl
    · rfl
end Go.Proofs.Ytpngnmogjmdmhaa
