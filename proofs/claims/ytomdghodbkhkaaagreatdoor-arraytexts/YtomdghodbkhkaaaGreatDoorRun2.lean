/- runOf, whole. -/
import Derived.Test.YtomdghodbkhkaaaGreatDoorRun
namespace Go.Proofs.YtomdghodbkhkaaaGreatDoor
open Go.RowKit
set_option linter.unusedVariables false
set_option linter.unusedSimpArgs false

set_option maxRecDepth 100000 in
set_option maxHeartbeats 1600000 in
theorem run_any (l : List UInt8) (hl : l.length ≤ 1000) (w : World) :
    Calls Tryz.prog 37 #[Str l] w fun e w' => e = .returned (.tuple #[.agg (rc (runV l).1).toArray, .bool (runV l).2]) ∧ Below w.heap.size w w' := by
  obtain ⟨A, R, lg, hA⟩ : ∃ A R lg, cut1 l = (A, R, lg) := ⟨_, _, _, rfl⟩
  obtain ⟨T, Y, st, hT⟩ : ∃ T Y st, cutB 58 R = (T, Y, st) := ⟨_, _, _, rfl⟩
  have h2 : cut2 l = (T, Y, st) := by
    unfold cut2
    rw [show cutB 45 l = (A, R, lg) from hA]
    exact hT
  have lA := cut_len 45 l
  rw [show cutB 45 l = (A, R, lg) from hA] at lA
  have lT := cut_len 58 R
  rw [hT] at lT
  have k1 := fun w => cut_any 45 l (by omega) w
  rw [show cutB 45 l = (A, R, lg) from hA] at k1
  have k2 := fun w => cut_any 58 R (by simp at lA; omega) w
  rw [hT] at k2
  have r1 := fun g b w hp => read_any g A b (by simp at lA; omega) w hp
  have r2 := fun g b w hp => read_any g T b (by simp at lA lT; omega) w hp
  have r3 := fun g b w hp => read_any g Y b (by simp at lA lT; omega) w hp
  have eV : runV l = (((numV A).1, (if lg then numV T else numV A).1, (if st then numV Y else (1, true)).1), (numV A).2 && (if lg then numV T else numV A).2 && (if st then numV Y else (1, true)).2 && decide ((numV A).1 ≤ (if lg then numV T else numV A).1) && decide (1 ≤ (if st then numV Y else (1, true)).1)) := by
    unfold runV lastV stepV
    rw [h2, hA]
  rw [eV]
  clear eV h2 hT hA lA lT
  simp only at k1 k2
  generalize numV A = nA at *
  generalize numV T = nT at *
  generalize numV Y = nY at *
  obtain ⟨na, oa⟩ := nA
  obtain ⟨nt, ot⟩ := nT
  obtain ⟨ny, oy⟩ := nY
  simp only at r1 r2 r3
  cases lg <;> cases st
  all_goals
    simp only [Bool.false_eq_true, if_false, if_true]
  all_goals
    have B0 := bnext (below_lit w (.cells #[.int .i64 0, .int .i64 0, .int .i64 0] 64)) (below_lit _ (.cells #[.bool true] 4))
    obtain ⟨W0, hW0⟩ : ∃ W0, W0 = (w.alloc (.cells #[.int .i64 0, .int .i64 0, .int .i64 0] 64)).alloc (.cells #[.bool true] 4) := ⟨_, rfl⟩
    have q0 : RB W0 w.heap.size 0 0 0 := by rw [hW0]; exact (RB.new w 0 0 0).below (below_lit _ _)
    have p0 : TBlk 4 W0 (w.heap.size + 1) (.bool true) := by
      rw [hW0, show w.heap.size + 1 = (w.alloc (.cells #[.int .i64 0, .int .i64 0, .int .i64 0] 64)).heap.size from (size_lit _ _).symm]
      exact heap_alloc_new _ _
    rw [← hW0] at B0
    go_enter Tryz.func37, Tryz.ntmps37
    go_wp2_with fail
    rw [← hW0]
    replace hW0 := hid hW0
    refine (k1 _).mono ?_
    rintro e w1 ⟨rfl, hb1⟩
    go_wp2_with fail
    refine (k2 _).mono ?_
    rintro e w2 ⟨rfl, hb2⟩
    go_wp2_with fail
    have B2 := bnext hb1 hb2
    refine (r1 (w.heap.size + 1) true _ (p0.below B2)).mono ?_
    rintro e w3 ⟨rfl, p3, hk3⟩
    have q3 := (q0.below B2).kp hk3 (by omega)
    have q4 := q3.below (below_lit w3 (.cells #[.int .i64 na, .int .i64 na, .int .i64 1] 64))
    have p4 := p3.below (below_lit w3 (.cells #[.int .i64 na, .int .i64 na, .int .i64 1] 64))
    have t4 := RB.new w3 na na 1
    have l3 := p3.lt
    have K4 : Hid (Kp (fun k => w.heap.size ≤ k) w (w3.alloc (.cells #[.int .i64 na, .int .i64 na, .int .i64 1] 64))) := hid (((Kp.of_below (bnext B0 B2)).next hk3 (fun i hi h => by omega)).then (below_lit w3 _))
    clear hk3 B2 hb1 hb2 p3 q3 p0 q0 B0
  · go_upto_region 11 with fail
    refine Code.wp_mono nrm_of ?_
    refine run_r11 (hid q4) (hid p4) (hid t4) (by omega) (by omega) (hid ?_)
    intro d43 d44 d45 d46 d47 d48 d49 d50 d51 d52 d53 d54 d55 d56 w9 R9 K9
    have B9 := (K4.out.next K9 (fun i hi h => by omega)).below (fun k h => h) (Nat.le_refl _)
    go_wp2_with fail
    (try simp only [Exit.inBlock, Exit.then])
    refine bodyPost_ret (results_cell_tmp rfl _ _ w.heap.size 64 _ (0, 0) _ rfl R9 Tryz.underlying64 info50s) rfl ?_
    refine ⟨?_, B9⟩
    simp only [rc]
    congr 3
    have i2 : decide ((1 : Int) ≤ ((ny : Nat) : Int)) = decide (1 ≤ ny) := by rw [Bool.eq_iff_iff]; simp only [decide_eq_true_eq]; omega
    (try rw [i2])
    cases oa <;> simp
  · have e5 : w3.heap.size < (w3.alloc (.cells #[.int .i64 na, .int .i64 na, .int .i64 1] 64)).heap.size := by rw [size_lit]; omega
    go_wp2_with fail
    refine (r3 (w.heap.size + 1) _ _ p4).mono ?_
    rintro e w5 ⟨rfl, p5, k5⟩
    have q5a := q4.kp k5 (by omega)
    have t5a := t4.kp k5 (by omega)
    obtain ⟨x50, x51, x52⟩ := t5a.cells
    obtain ⟨f50, f51, f52⟩ := t5a.free
    have q5 := q5a.kp (S := fun k => k = w3.heap.size) (Kp.setCell (S := fun k => k = w3.heap.size) (p := ⟨w3.heap.size, 2, none⟩) (Kp.refl _ _) rfl (.int .i64 (ny : Int))) (by omega)
    have p5b := p5.kp (S := fun k => k = w3.heap.size) (Kp.setCell (S := fun k => k = w3.heap.size) (p := ⟨w3.heap.size, 2, none⟩) (Kp.refl _ _) rfl (.int .i64 (ny : Int))) (by omega)
    have t5 := t5a.set2 (ny : Int)
    replace K4 := hid (Kp.setCell (S := fun k => w.heap.size ≤ k) (p := ⟨w3.heap.size, 2, none⟩) (K4.out.next k5 (fun i hi h => by omega)) (by show w.heap.size ≤ w3.heap.size; omega) (.int .i64 (ny : Int)))
    clear k5 q5a p5
    go_upto_region 11 with fail
    refine Code.wp_mono nrm_of ?_
    refine run_r11 (hid q5) (hid p5b) (hid t5) (by omega) (by omega) (hid ?_)
    intro d43 d44 d45 d46 d47 d48 d49 d50 d51 d52 d53 d54 d55 d56 w9 R9 K9
    have B9 := (K4.out.next K9 (fun i hi h => by omega)).below (fun k h => h) (Nat.le_refl _)
    go_wp2_with fail
    (try simp only [Exit.inBlock, Exit.then])
    refine bodyPost_ret (results_cell_tmp rfl _ _ w.heap.size 64 _ (0, 0) _ rfl R9 Tryz.underlying64 info50s) rfl ?_
    refine ⟨?_, B9⟩
    simp only [rc]
    congr 3
    have i2 : decide ((1 : Int) ≤ ((ny : Nat) : Int)) = decide (1 ≤ ny) := by rw [Bool.eq_iff_iff]; simp only [decide_eq_true_eq]; omega
    (try rw [i2])
    cases oa <;> cases oy <;> simp
  · have e5 : w3.heap.size < (w3.alloc (.cells #[.int .i64 na, .int .i64 na, .int .i64 1] 64)).heap.size := by rw [size_lit]; omega
    go_wp2_with fail
    refine (r2 (w.heap.size + 1) _ _ p4).mono ?_
    rintro e w5 ⟨rfl, p5, k5⟩
    have q5a := q4.kp k5 (by omega)
    have t5a := t4.kp k5 (by omega)
    obtain ⟨x50, x51, x52⟩ := t5a.cells
    obtain ⟨f50, f51, f52⟩ := t5a.free
    have q5 := q5a.kp (S := fun k => k = w3.heap.size) (Kp.setCell (S := fun k => k = w3.heap.size) (p := ⟨w3.heap.size, 1, none⟩) (Kp.refl _ _) rfl (.int .i64 (nt : Int))) (by omega)
    have p5b := p5.kp (S := fun k => k = w3.heap.size) (Kp.setCell (S := fun k => k = w3.heap.size) (p := ⟨w3.heap.size, 1, none⟩) (Kp.refl _ _) rfl (.int .i64 (nt : Int))) (by omega)
    have t5 := t5a.set1 (nt : Int)
    replace K4 := hid (Kp.setCell (S := fun k => w.heap.size ≤ k) (p := ⟨w3.heap.size, 1, none⟩) (K4.out.next k5 (fun i hi h => by omega)) (by show w.heap.size ≤ w3.heap.size; omega) (.int .i64 (nt : Int)))
    clear k5 q5a p5
    go_upto_region 11 with fail
    refine Code.wp_mono nrm_of ?_
    refine run_r11 (hid q5) (hid p5b) (hid t5) (by omega) (by omega) (hid ?_)
    intro d43 d44 d45 d46 d47 d48 d49 d50 d51 d52 d53 d54 d55 d56 w9 R9 K9
    have B9 := (K4.out.next K9 (fun i hi h => by omega)).below (fun k h => h) (Nat.le_refl _)
    go_wp2_with fail
    (try simp only [Exit.inBlock, Exit.then])
    refine bodyPost_ret (results_cell_tmp rfl _ _ w.heap.size 64 _ (0, 0) _ rfl R9 Tryz.underlying64 info50s) rfl ?_
    refine ⟨?_, B9⟩
    simp only [rc]
    congr 3
    have i2 : decide ((1 : Int) ≤ ((ny : Nat) : Int)) = decide (1 ≤ ny) := by rw [Bool.eq_iff_iff]; simp only [decide_eq_true_eq]; omega
    (try rw [i2])
    cases oa <;> cases ot <;> simp
  · have e5 : w3.heap.size < (w3.alloc (.cells #[.int .i64 na, .int .i64 na, .int .i64 1] 64)).heap.size := by rw [size_lit]; omega
    go_wp2_with fail
    refine (r2 (w.heap.size + 1) _ _ p4).mono ?_
    rintro e w5 ⟨rfl, p5, k5⟩
    have q5a := q4.kp k5 (by omega)
    have t5a := t4.kp k5 (by omega)
    obtain ⟨x50, x51, x52⟩ := t5a.cells
    obtain ⟨f50, f51, f52⟩ := t5a.free
    have q5 := q5a.kp (S := fun k => k = w3.heap.size) (Kp.setCell (S := fun k => k = w3.heap.size) (p := ⟨w3.heap.size, 1, none⟩) (Kp.refl _ _) rfl (.int .i64 (nt : Int))) (by omega)
    have p5b := p5.kp (S := fun k => k = w3.heap.size) (Kp.setCell (S := fun k => k = w3.heap.size) (p := ⟨w3.heap.size, 1, none⟩) (Kp.refl _ _) rfl (.int .i64 (nt : Int))) (by omega)
    have t5 := t5a.set1 (nt : Int)
    replace K4 := hid (Kp.setCell (S := fun k => w.heap.size ≤ k) (p := ⟨w3.heap.size, 1, none⟩) (K4.out.next k5 (fun i hi h => by omega)) (by show w.heap.size ≤ w3.heap.size; omega) (.int .i64 (nt : Int)))
    clear k5 q5a p5
    go_wp2_with fail
    refine (r3 (w.heap.size + 1) _ _ p5b).mono ?_
    rintro e w6 ⟨rfl, p6, k6⟩
    have q6a := q5.kp k6 (by omega)
    have t6a := t5.kp k6 (by omega)
    obtain ⟨x60, x61, x62⟩ := t6a.cells
    obtain ⟨f60, f61, f62⟩ := t6a.free
    have q6 := q6a.kp (S := fun k => k = w3.heap.size) (Kp.setCell (S := fun k => k = w3.heap.size) (p := ⟨w3.heap.size, 2, none⟩) (Kp.refl _ _) rfl (.int .i64 (ny : Int))) (by omega)
    have p6b := p6.kp (S := fun k => k = w3.heap.size) (Kp.setCell (S := fun k => k = w3.heap.size) (p := ⟨w3.heap.size, 2, none⟩) (Kp.refl _ _) rfl (.int .i64 (ny : Int))) (by omega)
    have t6 := t6a.set2 (ny : Int)
    replace K4 := hid (Kp.setCell (S := fun k => w.heap.size ≤ k) (p := ⟨w3.heap.size, 2, none⟩) (K4.out.next k6 (fun i hi h => by omega)) (by show w.heap.size ≤ w3.heap.size; omega) (.int .i64 (ny : Int)))
    clear k6 q6a p6
    go_upto_region 11 with fail
    refine Code.wp_mono nrm_of ?_
    refine run_r11 (hid q6) (hid p6b) (hid t6) (by omega) (by omega) (hid ?_)
    intro d43 d44 d45 d46 d47 d48 d49 d50 d51 d52 d53 d54 d55 d56 w9 R9 K9
    have B9 := (K4.out.next K9 (fun i hi h => by omega)).below (fun k h => h) (Nat.le_refl _)
    go_wp2_with fail
    (try simp only [Exit.inBlock, Exit.then])
    refine bodyPost_ret (results_cell_tmp rfl _ _ w.heap.size 64 _ (0, 0) _ rfl R9 Tryz.underlying64 info50s) rfl ?_
    refine ⟨?_, B9⟩
    simp only [rc]
    congr 3
    have i2 : decide ((1 : Int) ≤ ((ny : Nat) : Int)) = decide (1 ≤ ny) := by rw [Bool.eq_iff_iff]; simp only [decide_eq_true_eq]; omega
    (try rw [i2])
    cases oa <;> cases ot <;> cases oy <;> simp
end Go.Proofs.YtomdghodbkhkaaaGreatDoor
