/- The disks of FileNumbers. -/
import Derived.Test.YtpngnmogjmdmhaaMany
namespace Go.Proofs.Ytpngnmogjmdmhaa
open Go.RowKit

theorem Dsk.Inv.armD {d : Dsk} (h : d.Inv) (n : Int) (hn : n ≤ 9223372036854775807) : (d.armD n).Inv := by
  unfold Dsk.armD
  split
  · exact h
  · exact ⟨h.okay, h.now, h.short, (by show -1 ≤ n; omega), hn, h.fail0, h.fail1⟩
theorem Dsk.Inv.failD {d : Dsk} (h : d.Inv) (n e : Int) (hn : n ≤ 9223372036854775807) : (d.failD n e).Inv := by
  unfold Dsk.failD
  split
  · exact h
  · exact ⟨h.okay, h.now, h.short, h.arm0, h.arm1, (by show -1 ≤ n; omega), hn⟩

theorem arm_sole (base p : Nat) (x : Dx) (d d' : Dsk) (n e0 : Int) (w : World) (hs : Sole base w p x d) (hbase : base ≤ w.heap.size) (hn : n ≤ 9223372036854775807) (he : Dsk.armE n = e0) (hd : d.armD n = d') :
    Calls Try.prog 17 #[.pointer (some ⟨p, 0, none⟩), .int .i64 n] w fun e w' => e = .returned (.int .i64 e0) ∧ ∃ x', Sole base w' p x' d' ∧ Grow w p x x' ∧ Kp (Turn p x) w w' := by
  subst he; subst hd
  refine (arm_any p x d n w hs.is).mono ?_
  rintro e w' ⟨rfl, h⟩
  exact ⟨rfl, h.sole hs (hs.inv.armD n hn) hbase⟩
theorem fail_sole (base p : Nat) (x : Dx) (d d' : Dsk) (n ec e0 : Int) (w : World) (hs : Sole base w p x d) (hbase : base ≤ w.heap.size) (hn : n ≤ 9223372036854775807) (he : Dsk.failE n ec = e0) (hd : d.failD n ec = d') :
    Calls Try.prog 19 #[.pointer (some ⟨p, 0, none⟩), .int .i64 n, .int .i64 ec] w fun e w' => e = .returned (.int .i64 e0) ∧ ∃ x', Sole base w' p x' d' ∧ Grow w p x x' ∧ Kp (Turn p x) w w' := by
  subst he; subst hd
  refine (fail_any p x d n ec w hs.is).mono ?_
  rintro e w' ⟨rfl, h⟩
  exact ⟨rfl, h.sole hs (hs.inv.failD n ec hn) hbase⟩

/-- 'make([]byte, n)': so many bytes. -/
theorem wpList_zeros (w : World) {ops : Array Oper} {rest : List Oper} {o : Oper} {a : Act} {Q : Exit → Act → World → Prop} (hg : o.guard = none) (s t : Operand) (hop : o.op = Op.makeSlice 26 s t) (N : Int) (n : Nat) (hs : a.eval s = .int .i64 N) (ht : a.eval t = .int .i64 N) (hN : N = (n : Int)) (hn : n ≤ 10000000)
    (h : ∀ w' Z, Z.length = n → Row w' w.heap.size Z → Below w.heap.size w w' → wpList Try.prog ops Q rest (a.put o.dst (.slice (some ⟨w.heap.size, 0, none⟩) n n)) w') : wpList Try.prog ops Q (o :: rest) a w := by
  obtain ⟨i0, hi, hz0, hz1, hz2⟩ := info_parts info5
  refine wpList_make_full w hg s t 26 hop w.heap.size 5 i0 _ 1 Try.underlying26 hi hz0 hz1 .i64 .i64 N N n hs ht hN hN (by rw [hz2]; omega) (by unfold maxLen; omega) (Nat.le_refl _) ?_
  intro w' ho hg'
  exact h w' _ List.length_replicate (row_made ho) ((Below.refl _ _).grown hg' (Nat.le_refl _) (fun k hk => by cases hk))

theorem app_calm {d : Dsk} (hc : Calm d) (f : Nat) (hf : f < 3) (b : List UInt8) (hl : (d.cur f).length + b.length ≤ 1048576) : d.appE f b = 0 ∧ d.appD f b = d.note ⟨f, true, b, 0⟩ := by
  unfold Dsk.appE Dsk.appD
  rw [if_neg (by unfold bad; omega), if_neg (by simp; omega), if_neg (by unfold bad; omega), if_neg (by simp; omega), if_neg (by rw [hc.errs]; simp), hc.errs, hc.went]
  exact ⟨rfl, rfl⟩
theorem app_full (d : Dsk) (f : Nat) (hf : f < 3) (b : List UInt8) (hl : 1048576 < (d.cur f).length + b.length) : d.appE f b = 5 ∧ d.appD f b = d := by
  unfold Dsk.appE Dsk.appD
  rw [if_neg (by unfold bad; omega), if_pos (by simpa using hl), if_neg (by unfold bad; omega), if_pos (by simpa using hl)]
  exact ⟨rfl, rfl⟩
theorem cut_calm {d : Dsk} (hc : Calm d) (f : Nat) (hf : f < 3) (n : Nat) (hl : n ≤ (d.cur f).length) : d.cutE f n = 0 ∧ d.cutD f n = d.note ⟨f, false, [], n⟩ := by
  unfold Dsk.cutE Dsk.cutD
  rw [if_neg (by unfold bad; omega), if_neg (by simp; omega), if_neg (by unfold bad; omega), if_neg (by simp; omega), if_neg (by rw [hc.errs]; simp), hc.errs, hc.went]
  exact ⟨rfl, rfl⟩
theorem Calm.note {d : Dsk} (h : Calm d) (c : Ch) : Calm (d.note c) := ⟨h.down, h.arm, h.fail⟩
theorem both_down {d : Dsk} (h : Calm d) : (((d.armD 0).failD 0 4).errs = 6) := by
  unfold Dsk.failD Dsk.armD Dsk.errs
  simp [h.down]

def N1 : Dsk := Dsk.new.appD 0 [97, 98, 99]
def N2 : Dsk := N1.syncD
def N3 : Dsk := N2.cutD 0 1
def N4 : Dsk := N3.appD 1 [120]
def NX : Dsk := N4.crashD 1 9
def NY : Dsk := N4.crashD 0 9
def W1 : Dsk := Dsk.new.armD 1
def W2 : Dsk := W1.appD 2 [113]
def W3 : Dsk := W2.syncD
def W4 : Dsk := W3.crashD 9 0
def W5 : Dsk := W4.failD 0 4
def W6 : Dsk := W5.syncD
def W7 : Dsk := W6.syncD
def W8 : Dsk := W7.cutD 2 1
theorem w8_calm : Calm W8 := ⟨by decide, by decide, by decide⟩
theorem w8_len : (W8.cur 1).length = 0 := by decide
theorem w8_ops : W8.ops.length = 1 := by decide

def W9 (Z : List UInt8) : Dsk := W8.note ⟨1, true, Z, 0⟩
def W10 (Z : List UInt8) : Dsk := (W9 Z).note ⟨1, true, [], 0⟩
def W11 (Z : List UInt8) : Dsk := (W10 Z).note ⟨1, false, [], 0⟩
def W12 (Z : List UInt8) : Dsk := (W11 Z).note ⟨1, true, [1], 0⟩
def W13 (Z : List UInt8) : Dsk := (W12 Z).armD 0
def W14 (Z : List UInt8) : Dsk := (W13 Z).failD 0 4
def W15 (Z : List UInt8) : Dsk := (W14 Z).syncD
def W16 (Z : List UInt8) : Dsk := (W15 Z).crashD 0 0
def W17 (Z : List UInt8) : Dsk := (W16 Z).syncD
section
variable (Z : List UInt8)
theorem w9_calm : Calm (W9 Z) := w8_calm.note _
theorem w10_calm : Calm (W10 Z) := (w9_calm Z).note _
theorem w11_calm : Calm (W11 Z) := (w10_calm Z).note _
theorem w12_calm : Calm (W12 Z) := (w11_calm Z).note _
theorem w9_cur : (W9 Z).cur 1 = Z := by
  show W8.cur 1 ++ Z = Z
  rw [List.length_eq_zero_iff.1 w8_len]
  rfl
theorem w10_cur : (W10 Z).cur 1 = Z := by
  show (W9 Z).cur 1 ++ [] = Z
  rw [w9_cur, List.append_nil]
theorem w11_cur : (W11 Z).cur 1 = [] := rfl
theorem few9 : (W9 Z).ops.length = 2 := by show (W8.ops ++ [_]).length = 2; rw [List.length_append, w8_ops]; rfl
theorem few10 : (W10 Z).ops.length = 3 := by show ((W9 Z).ops ++ [_]).length = 3; rw [List.length_append, few9]; rfl
theorem few11 : (W11 Z).ops.length = 4 := by show ((W10 Z).ops ++ [_]).length = 4; rw [List.length_append, few10]; rfl
theorem few12 : (W12 Z).ops.length = 5 := by show ((W11 Z).ops ++ [_]).length = 5; rw [List.length_append, few11]; rfl
theorem few13 : (W13 Z).ops.length = 5 := few12 Z
theorem few14 : (W14 Z).ops.length = 5 := few12 Z
theorem errs14 : (W14 Z).errs = 6 := both_down (w12_calm Z)
theorem few15 : (W15 Z).ops.length ≤ 5 := Nat.le_trans (Dsk.syncD_few _) (by rw [few14]; exact Nat.le_refl _)
theorem calm16 : Calm (W16 Z) := crash_calm _ 0 0
theorem errs16 : (W16 Z).errs = 0 := (calm16 Z).errs
theorem few16 : (W16 Z).ops.length = 0 := rfl
theorem app9 (hZ : Z.length = 1048576) : W8.appE 1 Z = 0 ∧ W8.appD 1 Z = W9 Z := app_calm w8_calm 1 (by omega) Z (by rw [w8_len, hZ]; decide)
theorem app9f (hZ : Z.length = 1048576) : (W9 Z).appE 1 [1] = 5 ∧ (W9 Z).appD 1 [1] = W9 Z := app_full (W9 Z) 1 (by omega) [1] (by rw [w9_cur, hZ]; decide)
theorem app10 (hZ : Z.length = 1048576) : (W9 Z).appE 1 [] = 0 ∧ (W9 Z).appD 1 [] = W10 Z := app_calm (w9_calm Z) 1 (by omega) [] (by rw [w9_cur, hZ]; decide)
end
theorem cut11 (Z : List UInt8) : (W10 Z).cutE 1 0 = 0 ∧ (W10 Z).cutD 1 0 = W11 Z := cut_calm (w10_calm Z) 1 (by omega) 0 (Nat.zero_le _)
theorem app12 (Z : List UInt8) : (W11 Z).appE 1 [1] = 0 ∧ (W11 Z).appD 1 [1] = W12 Z := app_calm (w11_calm Z) 1 (by omega) [1] (by rw [w11_cur]; decide)
end Go.Proofs.Ytpngnmogjmdmhaa
