/- job's Finish. -/
import Derived.Test.YtphkdjacladcpaaJv
namespace Go.Proofs.Ytphkdjacladcpaa
open Go.RowKit
set_option linter.unusedVariables false
set_option linter.unusedSimpArgs false

def finE (j : Job) (s now : Int) : Int := if rightB j = true ∧ ord3 (sinceP j) now MT = true then (if overB s = true ∧ folB j.st s = true then 0 else 180) else 2
def fini (j : Job) (s x now : Int) : Job := ⟨j.id, j.arr, j.idx, j.s, s, j.sub, j.beg, now, j.on, exP s x⟩

set_option maxRecDepth 100000 in
set_option maxHeartbeats 2000000 in
theorem finish_A (j : Job) (st x now : Int) (D : List Dp) (w : World) (h0 : 0 ≤ j.on) (h1 : j.on < 4294967296) (hD : D.length = j.s.dn) (hl : j.s.dn * 16 ≤ 140737488355328) (hat : DAt w j.s.da D) (hr : rightB j = false) (E : Int) (hE : E = 2) :
    Calls Try.prog 18 #[.agg (jc j).toArray, .int .u8 st, .int .i64 x, .int .i64 now] w fun e w' => BT (w.heap.size + 1 + 1) E (fini j st x now) D e w' ∧ Below w.heap.size w w' := by
  have hst := st_make w j
  obtain ⟨W0, hW0⟩ : ∃ W0, W0 = (w.alloc (.cells (jc j).toArray 42)).alloc (.cells zJ 42) := ⟨_, rfl⟩
  rw [← hW0] at hst
  obtain ⟨r0, r1, hsz, bl⟩ := hst
  replace hE := hid hE
  have kR := fun w => right_any j w h0 h1
  rw [hr] at kR
  have kS := fun w => since_any j w
  have kT := fun w gb h => order3 (sinceP j) now MT w gb h
  have kA := hid (fun w5 (hb : Below W0.heap.size W0 w5) => apart_any j D w5 hD hl ((hat.below bl).below hb))
  have kO := fun w => over_any st w
  have kF := fun w => fol_any j.st st w
  have kX := fun w => exit_any st x w
  have c11 := row_cell r0 11 (.int .u8 j.st) rfl
  have hlt0 : w.heap.size < W0.heap.size := by omega
  replace hD := hid hD
  replace hat := hid hat
  replace hr := hid hr
  replace r0 := hid r0
  replace r1 := hid r1
  generalize sinceP j = sn at *
  have r0w := r0
  rw [hW0] at r0w
  go_enter Try.func18, Try.ntmps18
  go_wp2_with (refine wpList_load_row rfl 42 (.tmp 4) rfl w.heap.size rfl 42 (jc j).toArray (0, 0) _ r0w.out Try.underlying42 rfl (by kernel_rfl) ?_)
  rw [← hW0]
  replace hW0 := hid hW0
  clear r0w
  refine (kR _).mono ?_
  rintro e w1 ⟨rfl, hb1⟩
  have hs1 := hb1.size
  have hq := hE
  have u1 : w1.heap[w.heap.size + 1]? = some (.cells zJ 42 (0, 0)) := by rw [(hb1).block _ (by omega)]; exact r1.out
  have v1 := setRow_heap w1 (w.heap.size + 1) _ zJ _ _ u1
  have DD := below_setRow (g := w.heap.size + 1) (bnext bl (hb1)) (by omega) zJ
  replace u1 := hid u1
  replace v1 := hid v1
  go_wp2_with (refine wpList_store_row rfl 42 (.tmp 8) (.tmp 22) rfl (w.heap.size + 1) zJ rfl rfl 42 _ u1.out (by kernel_rfl) rfl (jc_all job0) ?_)
  (try simp only [Exit.inBlock, Exit.then])
  refine bodyPost_ret (results_cell_tmp rfl _ _ (w.heap.size + 1) 42 zJ (0, 0) _ rfl v1.out Try.underlying42 (by kernel_rfl)) rfl ?_
  exact ⟨.inr ⟨by rw [hq.out]; decide, by rw [hq.out]; rfl⟩, DD⟩

set_option maxRecDepth 100000 in
set_option maxHeartbeats 2000000 in
theorem finish_B (j : Job) (st x now : Int) (D : List Dp) (w : World) (h0 : 0 ≤ j.on) (h1 : j.on < 4294967296) (hD : D.length = j.s.dn) (hl : j.s.dn * 16 ≤ 140737488355328) (hat : DAt w j.s.da D) (hr : rightB j = true) (ht : ord3 (sinceP j) now MT = false) (E : Int) (hE : E = 2) :
    Calls Try.prog 18 #[.agg (jc j).toArray, .int .u8 st, .int .i64 x, .int .i64 now] w fun e w' => BT (w.heap.size + 1 + 1) E (fini j st x now) D e w' ∧ Below w.heap.size w w' := by
  have hst := st_make w j
  obtain ⟨W0, hW0⟩ : ∃ W0, W0 = (w.alloc (.cells (jc j).toArray 42)).alloc (.cells zJ 42) := ⟨_, rfl⟩
  rw [← hW0] at hst
  obtain ⟨r0, r1, hsz, bl⟩ := hst
  replace hE := hid hE
  have kR := fun w => right_any j w h0 h1
  rw [hr] at kR
  have kS := fun w => since_any j w
  have kT := fun w gb h => order3 (sinceP j) now MT w gb h
  have kA := hid (fun w5 (hb : Below W0.heap.size W0 w5) => apart_any j D w5 hD hl ((hat.below bl).below hb))
  have kO := fun w => over_any st w
  have kF := fun w => fol_any j.st st w
  have kX := fun w => exit_any st x w
  have c11 := row_cell r0 11 (.int .u8 j.st) rfl
  have hlt0 : w.heap.size < W0.heap.size := by omega
  replace hD := hid hD
  replace hat := hid hat
  replace hr := hid hr
  replace r0 := hid r0
  replace r1 := hid r1
  rw [ht] at kT
  replace ht := hid ht
  generalize sinceP j = sn at *
  have r0w := r0
  rw [hW0] at r0w
  go_enter Try.func18, Try.ntmps18
  go_wp2_with (refine wpList_load_row rfl 42 (.tmp 4) rfl w.heap.size rfl 42 (jc j).toArray (0, 0) _ r0w.out Try.underlying42 rfl (by kernel_rfl) ?_)
  rw [← hW0]
  replace hW0 := hid hW0
  clear r0w
  refine (kR _).mono ?_
  rintro e w1 ⟨rfl, hb1⟩
  have hs1 := hb1.size
  have q0 : w1.heap[w.heap.size]? = some (.cells (jc j).toArray 42 (0, 0)) := by rw [hb1.block _ (by omega)]; exact r0.out
  replace q0 := hid q0
  go_wp2_with (refine gload_row 3 false 14 rfl rfl rfl 42 (.tmp 4) rfl w.heap.size rfl 42 (jc j).toArray (0, 0) _ q0.out Try.underlying42 (by kernel_rfl) ?_)
  refine (kS _).mono ?_
  rintro e w2 ⟨rfl, hb2⟩
  have B2 := bnext hb1 hb2
  have hs2 := B2.size
  have bo := below_lit w2 (.cells #[.int .i64 sn, .int .i64 now, .int .i64 1099511627776] 2)
  have kT2 := kT _ w2.heap.size (cat_lit w2 2 [.int .i64 sn, .int .i64 now, .int .i64 1099511627776] #[.int .i64 sn, .int .i64 now, .int .i64 1099511627776] rfl)
  go_wp2_with fail
  refine kT2.mono ?_
  rintro e w3 ⟨rfl, hb3⟩
  have B3 := bnext B2 (bnext bo hb3)
  have hs3 := B3.size
  clear kT kT2 hb1 hb2 hb3 bo
  have hq := hE
  have u1 : w3.heap[w.heap.size + 1]? = some (.cells zJ 42 (0, 0)) := by rw [(B3).block _ (by omega)]; exact r1.out
  have v1 := setRow_heap w3 (w.heap.size + 1) _ zJ _ _ u1
  have DD := below_setRow (g := w.heap.size + 1) (bnext bl (B3)) (by omega) zJ
  replace u1 := hid u1
  replace v1 := hid v1
  go_wp2_with (refine wpList_store_row rfl 42 (.tmp 8) (.tmp 22) rfl (w.heap.size + 1) zJ rfl rfl 42 _ u1.out (by kernel_rfl) rfl (jc_all job0) ?_)
  (try simp only [Exit.inBlock, Exit.then])
  refine bodyPost_ret (results_cell_tmp rfl _ _ (w.heap.size + 1) 42 zJ (0, 0) _ rfl v1.out Try.underlying42 (by kernel_rfl)) rfl ?_
  exact ⟨.inr ⟨by rw [hq.out]; decide, by rw [hq.out]; rfl⟩, DD⟩

set_option maxRecDepth 100000 in
set_option maxHeartbeats 2000000 in
theorem finish_C (j : Job) (st x now : Int) (D : List Dp) (w : World) (h0 : 0 ≤ j.on) (h1 : j.on < 4294967296) (hD : D.length = j.s.dn) (hl : j.s.dn * 16 ≤ 140737488355328) (hat : DAt w j.s.da D) (hr : rightB j = true) (ht : ord3 (sinceP j) now MT = true) (E : Int) (hE : E = (if overB st = true ∧ folB j.st st = true then 0 else 180)) :
    Calls Try.prog 18 #[.agg (jc j).toArray, .int .u8 st, .int .i64 x, .int .i64 now] w fun e w' => BT (w.heap.size + 1 + 1) E (fini j st x now) D e w' ∧ Below w.heap.size w w' := by
  have hst := st_make w j
  obtain ⟨W0, hW0⟩ : ∃ W0, W0 = (w.alloc (.cells (jc j).toArray 42)).alloc (.cells zJ 42) := ⟨_, rfl⟩
  rw [← hW0] at hst
  obtain ⟨r0, r1, hsz, bl⟩ := hst
  replace hE := hid hE
  have kR := fun w => right_any j w h0 h1
  rw [hr] at kR
  have kS := fun w => since_any j w
  have kT := fun w gb h => order3 (sinceP j) now MT w gb h
  have kA := hid (fun w5 (hb : Below W0.heap.size W0 w5) => apart_any j D w5 hD hl ((hat.below bl).below hb))
  have kO := fun w => over_any st w
  have kF := fun w => fol_any j.st st w
  have kX := fun w => exit_any st x w
  have c11 := row_cell r0 11 (.int .u8 j.st) rfl
  have hlt0 : w.heap.size < W0.heap.size := by omega
  replace hD := hid hD
  replace hat := hid hat
  replace hr := hid hr
  replace r0 := hid r0
  replace r1 := hid r1
  rw [ht] at kT
  replace ht := hid ht
  generalize sinceP j = sn at *
  have r0w := r0
  rw [hW0] at r0w
  go_enter Try.func18, Try.ntmps18
  go_wp2_with (refine wpList_load_row rfl 42 (.tmp 4) rfl w.heap.size rfl 42 (jc j).toArray (0, 0) _ r0w.out Try.underlying42 rfl (by kernel_rfl) ?_)
  rw [← hW0]
  replace hW0 := hid hW0
  clear r0w
  refine (kR _).mono ?_
  rintro e w1 ⟨rfl, hb1⟩
  have hs1 := hb1.size
  have q0 : w1.heap[w.heap.size]? = some (.cells (jc j).toArray 42 (0, 0)) := by rw [hb1.block _ (by omega)]; exact r0.out
  replace q0 := hid q0
  go_wp2_with (refine gload_row 3 false 14 rfl rfl rfl 42 (.tmp 4) rfl w.heap.size rfl 42 (jc j).toArray (0, 0) _ q0.out Try.underlying42 (by kernel_rfl) ?_)
  refine (kS _).mono ?_
  rintro e w2 ⟨rfl, hb2⟩
  have B2 := bnext hb1 hb2
  have hs2 := B2.size
  have bo := below_lit w2 (.cells #[.int .i64 sn, .int .i64 now, .int .i64 1099511627776] 2)
  have kT2 := kT _ w2.heap.size (cat_lit w2 2 [.int .i64 sn, .int .i64 now, .int .i64 1099511627776] #[.int .i64 sn, .int .i64 now, .int .i64 1099511627776] rfl)
  go_wp2_with fail
  refine kT2.mono ?_
  rintro e w3 ⟨rfl, hb3⟩
  have B3 := bnext B2 (bnext bo hb3)
  have hs3 := B3.size
  clear kT kT2 hb1 hb2 hb3 bo
  have x11 := stay B3 c11
  have hlt3 : w.heap.size < w3.heap.size := by omega
  cases hO : overB st with
  | false =>
    have hq : Hid (E = 180) := hid (by rw [hE.out, if_neg (fun h => by rw [hO] at h; cases h.1)])
    rw [hO] at kO
    replace hO := hid hO
    go_wp2_with fail
    refine (kO _).mono ?_
    rintro e wx ⟨rfl, rfl⟩
    have u1 : wx.heap[w.heap.size + 1]? = some (.cells zJ 42 (0, 0)) := by rw [(B3).block _ (by omega)]; exact r1.out
    have v1 := setRow_heap wx (w.heap.size + 1) _ zJ _ _ u1
    have DD := below_setRow (g := w.heap.size + 1) (bnext bl (B3)) (by omega) zJ
    replace u1 := hid u1
    replace v1 := hid v1
    go_wp2_with (refine wpList_store_row rfl 42 (.tmp 8) (.tmp 33) rfl (w.heap.size + 1) zJ rfl rfl 42 _ u1.out (by kernel_rfl) rfl (jc_all job0) ?_)
    (try simp only [Exit.inBlock, Exit.then])
    refine bodyPost_ret (results_cell_tmp rfl _ _ (w.heap.size + 1) 42 zJ (0, 0) _ rfl v1.out Try.underlying42 (by kernel_rfl)) rfl ?_
    exact ⟨.inr ⟨by rw [hq.out]; decide, by rw [hq.out]; rfl⟩, DD⟩
  | true =>
    rw [hO] at kO
    cases hF : folB j.st st with
    | false =>
      have hq : Hid (E = 180) := hid (by rw [hE.out, if_neg (fun h => by rw [hF] at h; cases h.2)])
      rw [hF] at kF
      replace hO := hid hO
      replace hF := hid hF
      go_wp2_with fail
      refine (kO _).mono ?_
      rintro e wx ⟨rfl, rfl⟩
      go_wp2_with fail
      refine (kF _).mono ?_
      rintro e wy ⟨rfl, rfl⟩
      have u1 : wy.heap[w.heap.size + 1]? = some (.cells zJ 42 (0, 0)) := by rw [(B3).block _ (by omega)]; exact r1.out
      have v1 := setRow_heap wy (w.heap.size + 1) _ zJ _ _ u1
      have DD := below_setRow (g := w.heap.size + 1) (bnext bl (B3)) (by omega) zJ
      replace u1 := hid u1
      replace v1 := hid v1
      go_wp2_with (refine wpList_store_row rfl 42 (.tmp 8) (.tmp 33) rfl (w.heap.size + 1) zJ rfl rfl 42 _ u1.out (by kernel_rfl) rfl (jc_all job0) ?_)
      (try simp only [Exit.inBlock, Exit.then])
      refine bodyPost_ret (results_cell_tmp rfl _ _ (w.heap.size + 1) 42 zJ (0, 0) _ rfl v1.out Try.underlying42 (by kernel_rfl)) rfl ?_
      exact ⟨.inr ⟨by rw [hq.out]; decide, by rw [hq.out]; rfl⟩, DD⟩
    | true =>
      have hq : Hid (E = 0) := hid (by rw [hE.out, if_pos ⟨hO, hF⟩])
      rw [hF] at kF
      replace hO := hid hO
      replace hF := hid hF
      have q0 : w3.heap[w.heap.size]? = some (.cells (jc j).toArray 42 (0, 0)) := by rw [B3.block _ (by omega)]; exact r0.out
      have q1 : w3.heap[w.heap.size + 1]? = some (.cells zJ 42 (0, 0)) := by rw [B3.block _ (by omega)]; exact r1.out
      replace q0 := hid q0
      replace q1 := hid q1
      go_wp2_with fail
      refine (kO _).mono ?_
      rintro e wx ⟨rfl, rfl⟩
      go_wp2_with fail
      refine (kF _).mono ?_
      rintro e wy ⟨rfl, rfl⟩
      go_wp2_with (refine wpList_load_row rfl 42 (.tmp 4) rfl w.heap.size rfl 42 (jc j).toArray (0, 0) _ q0.out Try.underlying42 rfl (by kernel_rfl) ?_)
      refine (kA.out _ B3).mono ?_
      rintro e w6 ⟨x1, y1, rfl, hy, ho, hb6⟩
      have D6 := bnext bl (bnext B3 hb6)
      have p1 : w6.heap[w.heap.size + 1]? = some (.cells zJ 42 (0, 0)) := by rw [hb6.block _ (by omega)]; exact q1.out
      have hs6 := hb6.size
      obtain ⟨J, hJ⟩ : ∃ J, J = (fini j st x now).re x1 y1 := ⟨_, rfl⟩
      have hJc : (jc J).toArray = #[.int .i64 j.id, .int .i64 j.arr, .int .i64 j.idx, .string j.s.user, .string j.s.acct, .string j.s.qos, .string j.s.part, .int .i64 j.s.nodes, .int .i64 j.s.cores, .int .i64 j.s.lim, .slice x1 j.s.dn y1, .int .u8 st, .int .i64 j.sub, .int .i64 j.beg, .int .i64 now, .int .u32 j.on, .int .i64 (exP st x)] := by rw [hJ]; rfl
      have al1 := below_lit w6 (.cells (jc J).toArray 42)
      have v8 := heap_alloc_new w6 (.cells (jc J).toArray 42)
      have p1b : (w6.alloc (.cells (jc J).toArray 42)).heap[w.heap.size + 1]? = some (.cells zJ 42 (0, 0)) := by rw [al1.block _ (by omega)]; exact p1
      have v1 := setRow_heap (w6.alloc (.cells (jc J).toArray 42)) (w.heap.size + 1) _ (jc J).toArray _ _ p1b
      have D7 := bnext bl (bnext (bnext B3 hb6) al1)
      have D8 := below_setRow (g := w.heap.size + 1) D7 (by omega) (jc J).toArray
      have ho2 := (ho.below al1)
      have K3 : Kp (fun k => k = w.heap.size + 1) (w6.alloc (.cells (jc J).toArray 42)) ((w6.alloc (.cells (jc J).toArray 42)).setRow (w.heap.size + 1) (jc J).toArray) := kp_setRow (S := fun k => k = w.heap.size + 1) (Kp.refl _ _) rfl _
      have o3 := owns_low (base' := w.heap.size + 1 + 1) (owns_kp ho2 K3 (fun k hk h => by have := (World.ownsRow.lt ho2 k hk).1; omega)) (by omega)
      rw [hJc] at p1b v8
      replace hJ := hid hJ
      replace hJc := hid hJc
      replace v8 := hid v8
      replace v1 := hid v1
      replace p1b := hid p1b
      replace o3 := hid o3
      replace ho := hid ho
      replace ho2 := hid ho2
      replace K3 := hid K3
      replace D8 := hid D8
      simp only [jc, Job.re, Spc.re]
      generalize exP st x = X at *
      go_wp2_with (refine wpList_store_row rfl 42 (.tmp 10) (.tmp 35) rfl w6.heap.size (jc (j.re x1 y1)).toArray rfl rfl 42 _ (heap_alloc_new w6 _) (by kernel_rfl) rfl (jc_all _) ?_; rw [alloc_setRow]; simp only [jc, Job.re, Spc.re])
      refine (kX _).mono ?_
      rintro e wz ⟨rfl, rfl⟩
      go_wp2_with (first
        | (refine wpList_load_row rfl 42 (.tmp 10) rfl w6.heap.size rfl 42 _ (0, 0) _ v8.out Try.underlying42 rfl (by kernel_rfl) ?_)
        | (refine wpList_store_row rfl 42 (.tmp 8) (.tmp 44) rfl (w.heap.size + 1) (jc J).toArray rfl (by rw [hJc.out]; rfl) 42 _ p1b.out (by kernel_rfl) rfl (jc_all _) ?_))
      (try simp only [Exit.inBlock, Exit.then])
      rw [← hJc.out]
      refine bodyPost_ret (results_cell_tmp rfl _ _ (w.heap.size + 1) 42 (jc J).toArray (0, 0) _ rfl v1.out Try.underlying42 (by kernel_rfl)) rfl ?_
      exact ⟨.inl ⟨hq.out, x1, y1, by rw [hJ.out]; rfl, hy, o3.out⟩, D8.out⟩

theorem finish_any (j : Job) (st x now : Int) (D : List Dp) (w : World) (h0 : 0 ≤ j.on) (h1 : j.on < 4294967296) (hD : D.length = j.s.dn) (hl : j.s.dn * 16 ≤ 140737488355328) (hat : DAt w j.s.da D) :
    Calls Try.prog 18 #[.agg (jc j).toArray, .int .u8 st, .int .i64 x, .int .i64 now] w fun e w' => BT (w.heap.size + 1 + 1) (finE j st now) (fini j st x now) D e w' ∧ Below w.heap.size w w' := by
  cases hr : rightB j with
  | false => exact finish_A j st x now D w h0 h1 hD hl hat hr _ (by unfold finE; rw [if_neg (fun h => by rw [hr] at h; cases h.1)])
  | true =>
    cases ht : ord3 (sinceP j) now MT with
    | false => exact finish_B j st x now D w h0 h1 hD hl hat hr ht _ (by unfold finE; rw [if_neg (fun h => by rw [ht] at h; cases h.2)])
    | true => exact finish_C j st x now D w h0 h1 hD hl hat hr ht _ (by unfold finE; rw [if_pos ⟨hr, ht⟩])

end Go.Proofs.Ytphkdjacladcpaa
