/- rotateCmpFunc of places. -/
import Derived.Test.YtflapjehkgefdaaGreatSr1
namespace Go.Proofs.YtflapjehkgefdaaGreat
open Go.Shelf Go.RowKit Go.Lib Go.Sort
set_option linter.unusedVariables false
variable {w0 W : World} {blk off : Nat} {d0 dk : Array Plc}

theorem swapr_int (cap a b n : Nat) (za zb zn : Int) (ea : za = a) (eb : zb = b) (en : zn = n) (d : Array Plc) (k : Nat) (hk : d.size = k) (w : World) (fv : Value) (R : RowK plc 2 w0 blk off d0) (hs : d.size = d0.size) (S : SWK plc 2 w0 blk off d w) (hab : a + n ≤ b) (hb : b + n ≤ d.size) (hsz : d.size < 4611686018427387904) :
    Calls Tryz.prog 101 #[.slice (some ⟨blk, off, none⟩) k cap, .int .i64 za, .int .i64 zb, .int .i64 zn, fv] w fun e w' => e = .returned (.tuple #[]) ∧ SWK plc 2 w0 blk off (swapR d a b n) w' := by
  subst ea eb en hk
  exact swapr_any cap a b n d w fv R hs S hab hb hsz

set_option maxHeartbeats 1000000 in
set_option maxRecDepth 100000 in
theorem rot_any (cap a m b : Nat) (d : Array Plc) (w : World) (fv : Value) (R : RowK plc 2 w0 blk off d0) (hs : d.size = d0.size) (S : SWK plc 2 w0 blk off d w) (ham : a < m) (hmb : m < b) (hb : b ≤ d.size) (hsz : d.size < 4611686018427387904) :
    Calls Tryz.prog 86 #[.slice (some ⟨blk, off, none⟩) d.size cap, .int .i64 a, .int .i64 m, .int .i64 b, fv] w fun e w' => e = .returned (.tuple #[]) ∧ ∃ d', Rot d a m b d' ∧ SWK plc 2 w0 blk off d' w' := by
  obtain ⟨k, hk⟩ : ∃ k, d.size = k := ⟨_, rfl⟩
  have S0 := hid S
  have HS := hid hs
  have HK := hid hk
  have HZ := hid hsz
  rw [hk] at hb hsz ⊢
  clear S hs hk
  have r1 : IntKind.i64.wrap ((m : Int) - a) = (m : Int) - a := by rw [IntKind.wrap_i64]; omega
  have r2 : IntKind.i64.wrap ((b : Int) - m) = (b : Int) - m := by rw [IntKind.wrap_i64]; omega
  go_enter Tryz.func86, Tryz.ntmps86
  go_wp2
  go_loopg [10, 11] (m - a + (b - m)) (fun kx s10 s11 wr => ∃ (i j : Nat) (zi zj : Int) (dk : Array Plc), s10 = .int .i64 zi ∧ s11 = .int .i64 zj ∧ zi = i ∧ zj = j ∧ 0 < i ∧ i ≤ m ∧ 0 < j ∧ m + j ≤ k ∧ i + j ≤ kx ∧ Hid (dk.size = d.size) ∧ Hid (∀ d', Rot dk (m - i) m (m + j) d' → Rot d a m b d') ∧ Hid (SWK plc 2 w0 blk off dk wr))
  case atStart => exact ⟨m - a, b - m, _, _, d, rfl, rfl, by omega, by omega, by omega, by omega, by omega, by omega, Nat.le_refl _, rfl, fun d' h => by
    rw [show m - (m - a) = a by omega, show m + (b - m) = b by omega] at h; exact h, S0⟩
  case round =>
    clear S0 r1 r2
    obtain ⟨i, j, zi, zj, dk, rfl, rfl, ei, ej, hi, him, hj, hjk, hkx, hds, hrot, S1⟩ := hrel
    rcases Nat.lt_trichotomy i j with hlt | heq | hgt
    · have d1 : zi ≠ zj := by omega
      have d2 : ¬ zj < zi := by omega
      have d3 : decide (zj < zi) = false := decide_eq_false d2
      have d4 : (zi == zj) = false := beq_eq_false_iff_ne.2 d1
      have r1 : IntKind.i64.wrap ((m : Int) - zi) = (m : Int) - zi := by rw [IntKind.wrap_i64]; omega
      have r2 : IntKind.i64.wrap ((m : Int) + zj) = (m : Int) + zj := by rw [IntKind.wrap_i64]; omega
      have r3 : IntKind.i64.wrap ((m : Int) + zj - zi) = (m : Int) + zj - zi := by rw [IntKind.wrap_i64]; omega
      have r4 : IntKind.i64.wrap (zj - zi) = zj - zi := by rw [IntKind.wrap_i64]; omega
      have hc := swapr_int cap (m - i) (m + j - i) i ((m : Int) - zi) ((m : Int) + zj - zi) zi (by omega) (by omega) ei dk k (hds.out.trans HK.out) wr fv R (hds.out.trans HS.out) S1.out (by omega) (by have := hds.out; have := HK.out; omega) (by have := hds.out; have := HK.out; omega)
      replace ei := hid ei
      replace ej := hid ej
      go_wp2_with fail
      refine hc.mono ?_
      rintro e w' ⟨rfl, S2⟩
      replace S2 := hid S2
      go_wp2
      go_roundg (i + (j - i))
      case measure => omega
      case rel => exact ⟨i, j - i, zi, zj - zi, _, rfl, rfl, ei.out, by have := ei.out; have := ej.out; omega, hi, him, by omega, by omega, Nat.le_refl _, (swapR_size _ _ _ _).trans hds.out, fun d' h => hrot.out d' (Rot.right him (by have := hds.out; have := HK.out; omega) hlt h), S2⟩
    · have e : zi = zj := by omega
      subst e
      have e2 : j = i := heq.symm
      subst e2
      have r1 : IntKind.i64.wrap ((m : Int) - zi) = (m : Int) - zi := by rw [IntKind.wrap_i64]; omega
      have hc := swapr_int cap (m - j) m j ((m : Int) - zi) (m : Int) zi (by omega) rfl ei dk k (hds.out.trans HK.out) wr fv R (hds.out.trans HS.out) S1.out (by omega) (by have := hds.out; have := HK.out; omega) (by have := hds.out; have := HK.out; omega)
      replace ei := hid ei
      replace ej := hid ej
      go_wp2_with fail
      refine hc.mono ?_
      rintro e w' ⟨rfl, S2⟩
      replace S2 := hid S2
      go_wp2
      go_end0
      exact ⟨rfl, _, hrot.out _ (Rot.same him (by have := hds.out; have := HK.out; omega)), S2.out⟩
    · have d1 : zi ≠ zj := by omega
      have d2 : zj < zi := by omega
      have d4 : (zi == zj) = false := beq_eq_false_iff_ne.2 d1
      have r1 : IntKind.i64.wrap ((m : Int) - zi) = (m : Int) - zi := by rw [IntKind.wrap_i64]; omega
      have r4 : IntKind.i64.wrap (zi - zj) = zi - zj := by rw [IntKind.wrap_i64]; omega
      have hc := swapr_int cap (m - i) m j ((m : Int) - zi) (m : Int) zj (by omega) rfl ej dk k (hds.out.trans HK.out) wr fv R (hds.out.trans HS.out) S1.out (by omega) (by have := hds.out; have := HK.out; omega) (by have := hds.out; have := HK.out; omega)
      replace ei := hid ei
      replace ej := hid ej
      go_wp2_with fail
      refine hc.mono ?_
      rintro e w' ⟨rfl, S2⟩
      replace S2 := hid S2
      go_wp2
      go_roundg (i - j + j)
      case measure => omega
      case rel => exact ⟨i - j, j, zi - zj, zj, _, rfl, rfl, by have := ei.out; have := ej.out; omega, ej.out, by omega, by omega, hj, by omega, Nat.le_refl _, (swapR_size _ _ _ _).trans hds.out, fun d' h => hrot.out d' (Rot.left him (by have := hds.out; have := HK.out; omega) hgt h), S2⟩
end Go.Proofs.YtflapjehkgefdaaGreat
