/- What OverBytes and markByte do. -/
import Derived.Test.YtpngnmogjmdmhaaRefOps6
import Derived.Test.YtpngnmogjmdmhaaMade
namespace Go.Proofs.Ytpngnmogjmdmhaa
open Go.RowKit

theorem lent_own (a : Option Addr) (cap len : Nat) (l : List UInt8) (w : World) (hl : l.length = len) (hlen : len ≤ 140737488355328) (hat : At w a l) :
    Calls Try.prog 39 #[.slice a len cap] w fun e w' => ∃ g c, e = .returned (.slice (some ⟨g, 0, none⟩) len c) ∧ len + 3 ≤ c ∧ w.heap.size ≤ g ∧ Own w' w.heap.size (.slice (some ⟨g, 0, none⟩) (len + 3) c) (l ++ [77, 78, 79]) ∧ Below w.heap.size w w' := by
  go_enter Try.func39, Try.ntmps39
  go_wp2_with fail
  refine (copy_any a cap len l _ hl hlen hat).mono ?_
  rintro e w1 ⟨v1, rfl, ho1, hb1⟩
  have hz := hb1.size
  go_wp2_with (at_builtin; refine wpList_app _ rfl (.tmp 5) (.tmp 6) rfl rfl w.heap.size v1 l [77, 78, 79] rfl (ho1.alloc _) (some ⟨w1.heap.size, 0, none⟩) 3 3 rfl rfl (at_lit w1 [77, 78, 79] _ rfl) (by omega) (by simp; omega) ?_; intro v2 w2 ho2 hb2; obtain ⟨g2, c2, hv2, hc2, hat2⟩ := ho2.form_pos (by simp); have hlx : (l ++ [77, 78, 79]).length = len + 3 := (by rw [List.length_append, hl]; rfl); rw [hlx] at hv2 hc2; subst hv2)
  go_ret
  exact ⟨g2, c2, rfl, hc2, (ho2.lt g2 rfl).1, ho2, (hb1.alloc hz _).trans hb2⟩

set_option maxRecDepth 100000 in
set_option maxHeartbeats 1000000 in
theorem over_any (g c len base : Nat) (m : List UInt8) (w : World) (hlen : len ≤ 140737488355328) (hc : len + 3 ≤ c) (hm : m.length = len + 3) (ho : Own w base (.slice (some ⟨g, 0, none⟩) (len + 3) c) m) :
    Calls Try.prog 42 #[.slice (some ⟨g, 0, none⟩) len c] w fun e w' => e = .returned (.tuple #[]) ∧ Kp (fun k => k = g) w w' := by
  go_enter Try.func42, Try.ntmps42
  go_wp2_with fail
  go_loopw [3] (fun iv wr => ∃ j : Nat, j ≤ len + 3 ∧ iv = .int .i64 j ∧ (∃ m' : List UInt8, m'.length = len + 3 ∧ Own wr base (.slice (some ⟨g, 0, none⟩) (len + 3) c) m') ∧ Kp (fun k => k = g) w wr) (fun iv _ => len + 3 - (intOf iv).toNat)
  case atStart => exact ⟨0, by omega, rfl, ⟨m, hm, ho⟩, Kp.refl _ _⟩
  case round =>
    obtain ⟨j, hj, rfl, ⟨m', hm', ho'⟩, hk⟩ := hrel
    by_cases hlt : j < len + 3
    · have hx := ho'.cellAt hm' j hlt
      have hf := ho'.free hm' j
      go_wp2_with fail
      refine (mark_any 9 j _ (by omega) (by omega)).mono ?_
      rintro e w1 ⟨rfl, rfl⟩
      replace hm' := hid hm'
      go_wp2
      go_roundw
      case rel => exact ⟨j + 1, by omega, by go_num, ⟨m'.set j (mkB 9 j), by rw [List.length_set]; exact hm'.out, ho'.set hm'.out j (mkB 9 j)⟩, Kp.setCell (S := fun k => k = g) (p := ⟨g, j, none⟩) hk rfl _⟩
      case measure => simp [intOf]; omega
    · have hjn : j = len + 3 := by omega
      subst hjn
      go_wp2
      go_end0
      exact ⟨rfl, hk⟩
theorem Dsk.Inv.armD {d : Dsk} (h : d.Inv) (n : Int) (hn : n ≤ 9223372036854775807) : (d.armD n).Inv := by
  unfold Dsk.armD
  split
  · exact h
  · exact ⟨h.okay, h.now, h.short, (by show -1 ≤ n; omega), hn, h.fail0, h.fail1⟩
theorem Dsk.Inv.failD {d : Dsk} (h : d.Inv) (n e : Int) (hn : n ≤ 9223372036854775807) : (d.failD n e).Inv := by
  unfold Dsk.failD
  split
  · exact h
  · exact ⟨h.okay, h.now, h.short, h.arm0, h.arm1, (by show -1 ≤ n; omega), hn⟩

theorem arm_sole (base p : Nat) (x : Dx) (d d' : Dsk) (n e0 : Int) (w : World) (hs : Sole base w p x d) (hbase : base ≤ w.heap.size) (hn : n ≤ 9223372036854775807) (he : Dsk.armE n = e0) (hd : d.armD n = d') :
    Calls Try.prog 17 #[.pointer (some ⟨p, 0, none⟩), .int .i64 n] w fun e w' => e = .returned (.int .i64 e0) ∧ ∃ x', Sole base w' p x' d' ∧ Grow w p x x' ∧ Kp (Turn p x) w w' := by
  subst he; subst hd
  refine (arm_any p x d n w hs.is).mono ?_
  rintro e w' ⟨rfl, h⟩
  exact ⟨rfl, h.sole hs (hs.inv.armD n hn) hbase⟩
theorem fail_sole (base p : Nat) (x : Dx) (d d' : Dsk) (n ec e0 : Int) (w : World) (hs : Sole base w p x d) (hbase : base ≤ w.heap.size) (hn : n ≤ 9223372036854775807) (he : Dsk.failE n ec = e0) (hd : d.failD n ec = d') :
    Calls Try.prog 19 #[.pointer (some ⟨p, 0, none⟩), .int .i64 n, .int .i64 ec] w fun e w' => e = .returned (.int .i64 e0) ∧ ∃ x', Sole base w' p x' d' ∧ Grow w p x x' ∧ Kp (Turn p x) w w' := by
  subst he; subst hd
  refine (fail_any p x d n ec w hs.is).mono ?_
  rintro e w' ⟨rfl, h⟩
  exact ⟨rfl, h.sole hs (hs.inv.failD n ec hn) hbase⟩

end Go.Proofs.Ytpngnmogjmdmhaa
