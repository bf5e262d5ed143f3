/- cmp.Compare, cmp.Or, order.compare. -/
import Derived.Test.YtflapjehkgefdaaGreatSr6
import Derived.Test.YtflapjehkgefdaaGreatDraw
import Derived.Test.YtflapjehkgefdaaGreatDraw2
import Derived.Test.YtflapjehkgefdaaGreatVals
import Derived.Great.BuildSlice
namespace Go.Proofs.YtflapjehkgefdaaGreat
open Go.Shelf Go.RowKit Go.Lib Go.Sort
set_option linter.unusedVariables false
set_option linter.unusedSimpArgs false

theorem isnan_any (x : Int) (w : World) : Calls Tryz.prog 69 #[.int .i64 x] w fun e w' => e = .returned (.bool false) ∧ w' = w := by
  go_enter Tryz.func69, Tryz.ntmps69
  go_wp2
  go_ret
  exact ⟨rfl, rfl⟩

theorem compare_any (x y : Int) (w : World) : Calls Tryz.prog 50 #[.int .i64 x, .int .i64 y] w fun e w' => e = .returned (.int .i64 (Lib.compareInt x y)) ∧ w' = w := by
  by_cases h1 : x < y
  · have hf := hid (show Lib.compareInt x y = -1 by simp [Lib.compareInt, h1])
    have d1 : decide (x < y) = true := decide_eq_true h1
    go_enter Tryz.func50, Tryz.ntmps50
    go_wp2_with (go_at_call 69; refine (isnan_any _ _).mono ?_; rintro e w' ⟨rfl, rfl⟩)
    go_ret
    rw [hf.out]; exact ⟨rfl, rfl⟩
  · have d1 : decide (x < y) = false := decide_eq_false h1
    by_cases h2 : y < x
    · have hf := hid (show Lib.compareInt x y = 1 by simp [Lib.compareInt, h1, h2])
      have d2 : decide (y < x) = true := decide_eq_true h2
      go_enter Tryz.func50, Tryz.ntmps50
      go_wp2_with (go_at_call 69; refine (isnan_any _ _).mono ?_; rintro e w' ⟨rfl, rfl⟩)
      go_ret
      rw [hf.out]; exact ⟨rfl, rfl⟩
    · have hf := hid (show Lib.compareInt x y = 0 by simp [Lib.compareInt, h1, h2])
      have d2 : decide (y < x) = false := decide_eq_false h2
      go_enter Tryz.func50, Tryz.ntmps50
      go_wp2_with (go_at_call 69; refine (isnan_any _ _).mono ?_; rintro e w' ⟨rfl, rfl⟩)
      go_ret
      rw [hf.out]; exact ⟨rfl, rfl⟩

def orP (u v : Int) : Int := if u = 0 then v else u
set_option maxHeartbeats 400000 in
theorem or_any (b : Nat) (u v : Int) (w : World) (h0 : w.cell? ⟨b, 0, none⟩ = some (.int .i64 u)) (h1 : w.cell? ⟨b, 1, none⟩ = some (.int .i64 v)) :
    Calls Tryz.prog 49 #[.slice (some ⟨b, 0, none⟩) 2 2] w fun e w' => e = .returned (.int .i64 (orP u v)) ∧ w' = w := by
  have c0 := hid h0
  have c1 := hid h1
  clear h0 h1
  obtain ⟨R, hR⟩ : ∃ R, R = orP u v := ⟨_, rfl⟩
  rw [← hR]
  replace hR := hid hR
  go_enter Tryz.func49, Tryz.ntmps49
  go_wp2
  go_loopg [5, 8] 2 (fun kx s5 s8 wr => ∃ i : Nat, s8 = .int .i64 i ∧ i ≤ 2 ∧ 2 - i ≤ kx ∧ Hid (0 < i → u = 0) ∧ Hid (1 < i → v = 0) ∧ wr = w)
  case atStart => exact ⟨0, by simp, by omega, by omega, fun h => by omega, fun h => by omega, rfl⟩
  case round =>
    obtain ⟨i, rfl, hi, hkx, hu, hv, rfl⟩ := hrel
    by_cases hlt : i < 2
    · have d1 : (i : Int) < 2 := by omega
      obtain ⟨z, hz⟩ : ∃ z, Hid (z = if i = 0 then u else v) := ⟨_, rfl⟩
      have hc : wr.cell? ⟨b, i, none⟩ = some (.int .i64 z) := by
        rcases Nat.lt_or_ge i 1 with e | e
        · have : i = 0 := by omega
          subst this
          rw [hz.out, if_pos rfl]; exact c0.out
        · have : i = 1 := by omega
          subst this
          rw [hz.out, if_neg (by omega)]; exact c1.out
      by_cases hz0 : z = 0
      · replace hz0 := hid hz0
        have e0 : (z == 0) = true := by rw [hz0.out]; rfl
        have r1 : IntKind.i64.wrap ((i : Int) + 1) = (i : Int) + 1 := by rw [IntKind.wrap_i64]; omega
        have hu2 := hid (show 0 < i + 1 → u = 0 from fun _ => by
          rcases Nat.lt_or_ge i 1 with e | e
          · have := hz.out; rw [if_pos (by omega)] at this; rw [← this]; exact hz0.out
          · exact hu.out (by omega))
        have hv2 := hid (show 1 < i + 1 → v = 0 from fun hh => by
          have := hz.out; rw [if_neg (by omega)] at this; rw [← this]; exact hz0.out)
        go_wp2
        go_roundg (2 - (i + 1))
        case measure => omega
        case rel => exact ⟨i + 1, by simp, by omega, by omega, hu2, hv2, rfl⟩
      · have e0 : (z == 0) = false := beq_eq_false_iff_ne.2 hz0
        have e1 : ¬ z = 0 := hz0
        have hRz : Hid (R = z) := hid (by
          rw [hR.out]
          unfold orP
          rcases Nat.lt_or_ge i 1 with e | e
          · have h := hz.out; rw [if_pos (by omega)] at h; rw [← h, if_neg hz0]
          · have h := hz.out; rw [if_neg (by omega)] at h; rw [if_pos (hu.out (by omega)), h])
        replace hz0 := hid hz0
        go_wp2
        go_ret
        rw [hRz.out]; exact ⟨rfl, rfl⟩
    · have e : i = 2 := by omega
      subst e
      have hRz : Hid (R = 0) := hid (by
        rw [hR.out]; unfold orP; rw [if_pos (hu.out (by omega)), hv.out (by omega)])
      go_wp2
      go_ret
      rw [hRz.out]; exact ⟨rfl, rfl⟩

/-- The world behind draws and new blocks. -/
def GR (w w' : World) : Prop := ∃ q os, w' = grow (w.drewN q) os
theorem GR.refl (w : World) : GR w w := ⟨0, #[], by rw [grow_empty]; rfl⟩
theorem GR.trans {a b c : World} (h : GR a b) (k : GR b c) : GR a c := by
  obtain ⟨q, os, rfl⟩ := h
  obtain ⟨q', os', rfl⟩ := k
  exact ⟨q + q', os ++ os', by show grow (grow ((a.drewN q).drewN q') os) os' = _; rw [grow_grow, World.drewN_drewN]⟩
theorem GR.drew (w : World) : GR w w.drew := ⟨1, #[], by rw [grow_empty]; rfl⟩
theorem GR.alloc (w : World) (o : Obj) : GR w (w.alloc o) := ⟨0, #[o], by rw [alloc_eq_grow]; rfl⟩
theorem GR.cell {w w' : World} (h : GR w w') {a : Addr} {v : Value} (hb : a.block < w.heap.size) (hc : w.cell? a = some v) : w'.cell? a = some v := by
  obtain ⟨q, os, rfl⟩ := h
  exact cell_grown hb hc q os
theorem GR.le {w w' : World} (h : GR w w') : w.heap.size ≤ w'.heap.size := by
  obtain ⟨q, os, rfl⟩ := h
  rw [size_grow]; show w.heap.size ≤ w.heap.size + _; omega

def cfP (x y : Plc) : Int := orP (Lib.compareInt y.1 x.1) (Lib.compareInt x.2 y.2)
theorem cmpInt_neg (x y : Int) : Lib.compareInt x y < 0 ↔ x < y := by
  unfold Lib.compareInt
  by_cases h1 : x < y
  · simp [h1]
  · by_cases h2 : y < x <;> simp [h1, h2]
theorem cmpInt_zero (x y : Int) : Lib.compareInt x y = 0 ↔ x = y := by
  unfold Lib.compareInt
  by_cases h1 : x < y
  · simp [h1]; omega
  · by_cases h2 : y < x
    · simp [h1, h2]; omega
    · simp [h1, h2]; omega
theorem lt_cf (x y : Plc) : ltOf cfP x y = (decide (y.1 < x.1) || (decide (x.1 = y.1) && decide (x.2 < y.2))) := by
  have h : cfP x y < 0 ↔ y.1 < x.1 ∨ (x.1 = y.1 ∧ x.2 < y.2) := by
    unfold cfP orP
    by_cases h0 : Lib.compareInt y.1 x.1 = 0
    · rw [if_pos h0, cmpInt_neg]
      rw [cmpInt_zero] at h0
      omega
    · rw [if_neg h0, cmpInt_neg]
      rw [cmpInt_zero] at h0
      omega
  unfold ltOf
  rw [Bool.eq_iff_iff, decide_eq_true_eq, h]
  simp
theorem swo_cf : SWO (ltOf cfP) where
  irrefl x := by rw [lt_cf]; simp
  trans x y z h1 h2 := by
    rw [lt_cf] at *
    simp only [Bool.or_eq_true, Bool.and_eq_true, decide_eq_true_eq] at *
    omega
  ntrans x y z h1 h2 := by
    rw [lt_cf] at *
    simp only [Bool.or_eq_false_iff, Bool.and_eq_false_iff, decide_eq_false_iff_not] at *
    omega
end Go.Proofs.YtflapjehkgefdaaGreat
