/- The chapter's examples. -/
import Derived.Test.YtlhmlfinflodaaaJw
namespace Go.Proofs.Ytlhmlfinflodaaa
open Go.RowKit
set_option linter.unusedVariables false
set_option linter.unusedSimpArgs false

def s0 : Spc := ⟨⟨#[]⟩, ⟨#[]⟩, ⟨#[]⟩, ⟨#[]⟩, 2, 3, 10, none, 0, 0⟩
def jA : Job := mkJ 1 s0 5
def jB : Job := begun jA 3 7
def jD : Job := fini jB 3 9 9
def jX : Job := fini jB 4 0 9
theorem e_1 (x : Option Addr) (y : Nat) : beginE (jA.re x y) 3 7 = 0 := by kernel_rfl
theorem e_2 (x : Option Addr) (y : Nat) : beginE (jA.re x y) 1 7 = 2 := by kernel_rfl
theorem e_3 (x : Option Addr) (y : Nat) : finE (jB.re x y) 3 9 = 0 := by kernel_rfl
theorem e_4 (x : Option Addr) (y : Nat) : finE (jD.re x y) 6 9 = 180 := by kernel_rfl
theorem e_5 (x : Option Addr) (y : Nat) : finE (jB.re x y) 4 9 = 0 := by kernel_rfl
theorem e_6 (x : Option Addr) (y : Nat) : finE (jA.re x y) 3 9 = 180 := by kernel_rfl
theorem e_7 (x : Option Addr) (y : Nat) : endP (jB.re x y) = 17 := by kernel_rfl
theorem e_8 (x : Option Addr) (y : Nat) : rightB (jA.re x y) = true := by kernel_rfl
theorem BT.ok {base : Nat} {J : Job} {D : List Dp} {e : Ending} {w' : World} (h : BT base 0 J D e w') : ∃ x y, e = .returned (.tuple #[.agg (jc (J.re x y)).toArray, .int .i64 0]) ∧ J.s.dn ≤ y ∧ DOwn w' base (.slice x J.s.dn y) D := by
  rcases h with ⟨_, h⟩ | ⟨h, _⟩
  · exact h
  · exact absurd rfl h
theorem BT.no {base : Nat} {E : Int} {J : Job} {D : List Dp} {e : Ending} {w' : World} (h : BT base E J D e w') (hE : E ≠ 0) : e = .returned (.tuple #[.agg (jc job0).toArray, .int .i64 E]) := by
  rcases h with ⟨h, _⟩ | ⟨_, h⟩
  · exact absurd h hE
  · exact h

set_option maxRecDepth 100000 in
set_option maxHeartbeats 4000000 in
theorem awake_any (w : World) : Calls Try.prog 22 #[] w fun e w' => e = .returned (.bool true) ∧ Below w.heap.size w w' := by
  have k0 := make_any 1 s0 5 [] w rfl (by decide) (DAt.nil _ _)
  go_enter Try.func22, Try.ntmps22
  go_wp2_with fail
  refine k0.mono ?_
  rintro e w1 ⟨x0, y0, rfl, _, _, hb1⟩
  clear k0
  obtain ⟨JA, hJA⟩ : ∃ JA, JA = jA.re x0 y0 := ⟨_, rfl⟩
  replace hJA := hid hJA
  rw [show (mkJ 1 s0 5).re x0 y0 = JA by rw [hJA.out]; rfl]
  have al1 := below_lit w1 (.cells (jc JA).toArray 29)
  have rowa := heap_alloc_new w1 (.cells (jc JA).toArray 29)
  have D1 := bnext hb1 al1
  replace rowa := hid rowa
  go_wp2_with (first
    | (refine wpList_store_row rfl 29 (.tmp 1) (.tmp 15) rfl w1.heap.size (jc JA).toArray rfl rfl 29 _ (heap_alloc_new w1 _) (by kernel_rfl) rfl (jc_all _) ?_; rw [alloc_setRow])
    | (refine wpList_load_row rfl 29 (.tmp 1) rfl _ rfl 29 (jc JA).toArray (0, 0) _ rowa.out Try.underlying29 rfl (by kernel_rfl) ?_))
  refine (begin_any JA 3 7 [] _ (by rw [hJA.out]; exact (by decide : (0 : Int) ≤ 0)) (by rw [hJA.out]; exact (by decide : (0 : Int) < 4294967296)) (by decide) (by decide) (by rw [hJA.out]; rfl) (by rw [hJA.out]; exact (by decide : 0 * 16 ≤ 140737488355328)) (DAt.nil _ _)).mono ?_
  rintro e w2 ⟨hBT, hb2⟩
  replace rowa : w2.heap[w1.heap.size]? = some (.cells (jc JA).toArray 29 (0, 0)) := by rw [hb2.block _ (by have := size_lit w1 (.cells (jc JA).toArray 29); omega)]; exact rowa.out
  replace rowa := hid rowa
  have hz2 := hb2.size
  rw [size_lit] at hz2
  rw [show beginE JA 3 7 = 0 from by rw [hJA]; exact e_1 _ _] at hBT
  obtain ⟨x2, y2, rfl, _, _⟩ := hBT.ok
  clear hBT
  obtain ⟨JB, hJB⟩ : ∃ J, J = jB.re x2 y2 := ⟨_, rfl⟩
  replace hJB := hid hJB
  rw [show (begun JA 3 7).re x2 y2 = JB by rw [hJB.out, hJA.out]; rfl]
  have al2 := below_lit w2 (.cells (jc JB).toArray 29)
  have rowb := heap_alloc_new w2 (.cells (jc JB).toArray 29)
  have D2 := bnext (bnext D1 hb2) al2
  replace rowa : (w2.alloc (.cells (jc JB).toArray 29)).heap[w1.heap.size]? = some (.cells (jc JA).toArray 29 (0, 0)) := by rw [al2.block _ (by omega)]; exact rowa.out
  replace rowa := hid rowa
  replace rowb := hid rowb
  go_wp2_with (first
    | (refine wpList_store_row rfl 29 (.tmp 2) (.tmp 19) rfl w2.heap.size (jc JB).toArray rfl rfl 29 _ (heap_alloc_new w2 _) (by kernel_rfl) rfl (jc_all _) ?_; rw [alloc_setRow])
    | (refine wpList_load_row rfl 29 (.tmp 1) rfl _ rfl 29 (jc JA).toArray (0, 0) _ rowa.out Try.underlying29 rfl (by kernel_rfl) ?_))
  refine (begin_any JA 1 7 [] _ (by rw [hJA.out]; exact (by decide : (0 : Int) ≤ 0)) (by rw [hJA.out]; exact (by decide : (0 : Int) < 4294967296)) (by decide) (by decide) (by rw [hJA.out]; rfl) (by rw [hJA.out]; exact (by decide : 0 * 16 ≤ 140737488355328)) (DAt.nil _ _)).mono ?_
  rintro e w3 ⟨hBT, hb3⟩
  replace rowa : w3.heap[w1.heap.size]? = some (.cells (jc JA).toArray 29 (0, 0)) := by rw [hb3.block _ (by have := size_lit w2 (.cells (jc JB).toArray 29); omega)]; exact rowa.out
  replace rowb : w3.heap[w2.heap.size]? = some (.cells (jc JB).toArray 29 (0, 0)) := by rw [hb3.block _ (by have := size_lit w2 (.cells (jc JB).toArray 29); omega)]; exact rowb.out
  replace rowa := hid rowa
  replace rowb := hid rowb
  have hz3 := hb3.size
  rw [size_lit] at hz3
  rw [show beginE JA 1 7 = 2 from by rw [hJA]; exact e_2 _ _] at hBT
  obtain rfl := hBT.no (by decide)
  clear hBT
  have al3 := below_lit w3 (.cells (jc job0).toArray 29)
  have rowc := heap_alloc_new w3 (.cells (jc job0).toArray 29)
  have D3 := bnext (bnext D2 hb3) al3
  replace rowa : (w3.alloc (.cells (jc job0).toArray 29)).heap[w1.heap.size]? = some (.cells (jc JA).toArray 29 (0, 0)) := by rw [al3.block _ (by omega)]; exact rowa.out
  replace rowb : (w3.alloc (.cells (jc job0).toArray 29)).heap[w2.heap.size]? = some (.cells (jc JB).toArray 29 (0, 0)) := by rw [al3.block _ (by omega)]; exact rowb.out
  replace rowa := hid rowa
  replace rowb := hid rowb
  replace rowc := hid rowc
  go_wp2_with (first
    | (refine wpList_store_row rfl 29 (.tmp 4) (.tmp 24) rfl w3.heap.size (jc job0).toArray rfl rfl 29 _ (heap_alloc_new w3 _) (by kernel_rfl) rfl (jc_all _) ?_; rw [alloc_setRow])
    | (refine wpList_load_row rfl 29 (.tmp 2) rfl _ rfl 29 (jc JB).toArray (0, 0) _ rowb.out Try.underlying29 rfl (by kernel_rfl) ?_))
  refine (finish_any JB 3 9 9 [] _ (by rw [hJB.out]; exact (by decide : (0 : Int) ≤ 3)) (by rw [hJB.out]; exact (by decide : (3 : Int) < 4294967296)) (by rw [hJB.out]; rfl) (by rw [hJB.out]; exact (by decide : 0 * 16 ≤ 140737488355328)) (DAt.nil _ _)).mono ?_
  rintro e w4 ⟨hBT, hb4⟩
  replace rowa : w4.heap[w1.heap.size]? = some (.cells (jc JA).toArray 29 (0, 0)) := by rw [hb4.block _ (by have := size_lit w3 (.cells (jc job0).toArray 29); omega)]; exact rowa.out
  replace rowb : w4.heap[w2.heap.size]? = some (.cells (jc JB).toArray 29 (0, 0)) := by rw [hb4.block _ (by have := size_lit w3 (.cells (jc job0).toArray 29); omega)]; exact rowb.out
  replace rowc : w4.heap[w3.heap.size]? = some (.cells (jc job0).toArray 29 (0, 0)) := by rw [hb4.block _ (by have := size_lit w3 (.cells (jc job0).toArray 29); omega)]; exact rowc.out
  replace rowa := hid rowa
  replace rowb := hid rowb
  replace rowc := hid rowc
  have hz4 := hb4.size
  rw [size_lit] at hz4
  rw [show finE JB 3 9 = 0 from by rw [hJB]; exact e_3 _ _] at hBT
  obtain ⟨x4, y4, rfl, _, _⟩ := hBT.ok
  clear hBT
  obtain ⟨JD, hJD⟩ : ∃ J, J = jD.re x4 y4 := ⟨_, rfl⟩
  replace hJD := hid hJD
  rw [show (fini JB 3 9 9).re x4 y4 = JD by rw [hJD.out, hJB.out]; rfl]
  have al4 := below_lit w4 (.cells (jc JD).toArray 29)
  have rowd := heap_alloc_new w4 (.cells (jc JD).toArray 29)
  have D4 := bnext (bnext D3 hb4) al4
  replace rowa : (w4.alloc (.cells (jc JD).toArray 29)).heap[w1.heap.size]? = some (.cells (jc JA).toArray 29 (0, 0)) := by rw [al4.block _ (by omega)]; exact rowa.out
  replace rowb : (w4.alloc (.cells (jc JD).toArray 29)).heap[w2.heap.size]? = some (.cells (jc JB).toArray 29 (0, 0)) := by rw [al4.block _ (by omega)]; exact rowb.out
  replace rowc : (w4.alloc (.cells (jc JD).toArray 29)).heap[w3.heap.size]? = some (.cells (jc job0).toArray 29 (0, 0)) := by rw [al4.block _ (by omega)]; exact rowc.out
  replace rowa := hid rowa
  replace rowb := hid rowb
  replace rowc := hid rowc
  replace rowd := hid rowd
  go_wp2_with (first
    | (refine wpList_store_row rfl 29 (.tmp 6) (.tmp 29) rfl w4.heap.size (jc JD).toArray rfl rfl 29 _ (heap_alloc_new w4 _) (by kernel_rfl) rfl (jc_all _) ?_; rw [alloc_setRow])
    | (refine wpList_load_row rfl 29 (.tmp 6) rfl _ rfl 29 (jc JD).toArray (0, 0) _ rowd.out Try.underlying29 rfl (by kernel_rfl) ?_))
  refine (finish_any JD 6 0 9 [] _ (by rw [hJD.out]; exact (by decide : (0 : Int) ≤ 3)) (by rw [hJD.out]; exact (by decide : (3 : Int) < 4294967296)) (by rw [hJD.out]; rfl) (by rw [hJD.out]; exact (by decide : 0 * 16 ≤ 140737488355328)) (DAt.nil _ _)).mono ?_
  rintro e w5 ⟨hBT, hb5⟩
  replace rowa : w5.heap[w1.heap.size]? = some (.cells (jc JA).toArray 29 (0, 0)) := by rw [hb5.block _ (by have := size_lit w4 (.cells (jc JD).toArray 29); omega)]; exact rowa.out
  replace rowb : w5.heap[w2.heap.size]? = some (.cells (jc JB).toArray 29 (0, 0)) := by rw [hb5.block _ (by have := size_lit w4 (.cells (jc JD).toArray 29); omega)]; exact rowb.out
  replace rowc : w5.heap[w3.heap.size]? = some (.cells (jc job0).toArray 29 (0, 0)) := by rw [hb5.block _ (by have := size_lit w4 (.cells (jc JD).toArray 29); omega)]; exact rowc.out
  replace rowd : w5.heap[w4.heap.size]? = some (.cells (jc JD).toArray 29 (0, 0)) := by rw [hb5.block _ (by have := size_lit w4 (.cells (jc JD).toArray 29); omega)]; exact rowd.out
  replace rowa := hid rowa
  replace rowb := hid rowb
  replace rowc := hid rowc
  replace rowd := hid rowd
  have hz5 := hb5.size
  rw [size_lit] at hz5
  rw [show finE JD 6 9 = 180 from by rw [hJD]; exact e_4 _ _] at hBT
  obtain rfl := hBT.no (by decide)
  clear hBT
  have al5 := below_lit w5 (.cells (jc job0).toArray 29)
  have rowe := heap_alloc_new w5 (.cells (jc job0).toArray 29)
  have D5 := bnext (bnext D4 hb5) al5
  replace rowa : (w5.alloc (.cells (jc job0).toArray 29)).heap[w1.heap.size]? = some (.cells (jc JA).toArray 29 (0, 0)) := by rw [al5.block _ (by omega)]; exact rowa.out
  replace rowb : (w5.alloc (.cells (jc job0).toArray 29)).heap[w2.heap.size]? = some (.cells (jc JB).toArray 29 (0, 0)) := by rw [al5.block _ (by omega)]; exact rowb.out
  replace rowc : (w5.alloc (.cells (jc job0).toArray 29)).heap[w3.heap.size]? = some (.cells (jc job0).toArray 29 (0, 0)) := by rw [al5.block _ (by omega)]; exact rowc.out
  replace rowd : (w5.alloc (.cells (jc job0).toArray 29)).heap[w4.heap.size]? = some (.cells (jc JD).toArray 29 (0, 0)) := by rw [al5.block _ (by omega)]; exact rowd.out
  replace rowa := hid rowa
  replace rowb := hid rowb
  replace rowc := hid rowc
  replace rowd := hid rowd
  replace rowe := hid rowe
  go_wp2_with (first
    | (refine wpList_store_row rfl 29 (.tmp 8) (.tmp 34) rfl w5.heap.size (jc job0).toArray rfl rfl 29 _ (heap_alloc_new w5 _) (by kernel_rfl) rfl (jc_all _) ?_; rw [alloc_setRow])
    | (refine wpList_load_row rfl 29 (.tmp 2) rfl _ rfl 29 (jc JB).toArray (0, 0) _ rowb.out Try.underlying29 rfl (by kernel_rfl) ?_))
  refine (finish_any JB 4 0 9 [] _ (by rw [hJB.out]; exact (by decide : (0 : Int) ≤ 3)) (by rw [hJB.out]; exact (by decide : (3 : Int) < 4294967296)) (by rw [hJB.out]; rfl) (by rw [hJB.out]; exact (by decide : 0 * 16 ≤ 140737488355328)) (DAt.nil _ _)).mono ?_
  rintro e w6 ⟨hBT, hb6⟩
  replace rowa : w6.heap[w1.heap.size]? = some (.cells (jc JA).toArray 29 (0, 0)) := by rw [hb6.block _ (by have := size_lit w5 (.cells (jc job0).toArray 29); omega)]; exact rowa.out
  replace rowb : w6.heap[w2.heap.size]? = some (.cells (jc JB).toArray 29 (0, 0)) := by rw [hb6.block _ (by have := size_lit w5 (.cells (jc job0).toArray 29); omega)]; exact rowb.out
  replace rowc : w6.heap[w3.heap.size]? = some (.cells (jc job0).toArray 29 (0, 0)) := by rw [hb6.block _ (by have := size_lit w5 (.cells (jc job0).toArray 29); omega)]; exact rowc.out
  replace rowd : w6.heap[w4.heap.size]? = some (.cells (jc JD).toArray 29 (0, 0)) := by rw [hb6.block _ (by have := size_lit w5 (.cells (jc job0).toArray 29); omega)]; exact rowd.out
  replace rowe : w6.heap[w5.heap.size]? = some (.cells (jc job0).toArray 29 (0, 0)) := by rw [hb6.block _ (by have := size_lit w5 (.cells (jc job0).toArray 29); omega)]; exact rowe.out
  replace rowa := hid rowa
  replace rowb := hid rowb
  replace rowc := hid rowc
  replace rowd := hid rowd
  replace rowe := hid rowe
  have hz6 := hb6.size
  rw [size_lit] at hz6
  rw [show finE JB 4 9 = 0 from by rw [hJB]; exact e_5 _ _] at hBT
  obtain ⟨x6, y6, rfl, _, _⟩ := hBT.ok
  clear hBT
  obtain ⟨JX, hJX⟩ : ∃ J, J = jX.re x6 y6 := ⟨_, rfl⟩
  replace hJX := hid hJX
  rw [show (fini JB 4 0 9).re x6 y6 = JX by rw [hJX.out, hJB.out]; rfl]
  have al6 := below_lit w6 (.cells (jc JX).toArray 29)
  have rowf := heap_alloc_new w6 (.cells (jc JX).toArray 29)
  have D6 := bnext (bnext D5 hb6) al6
  replace rowa : (w6.alloc (.cells (jc JX).toArray 29)).heap[w1.heap.size]? = some (.cells (jc JA).toArray 29 (0, 0)) := by rw [al6.block _ (by omega)]; exact rowa.out
  replace rowb : (w6.alloc (.cells (jc JX).toArray 29)).heap[w2.heap.size]? = some (.cells (jc JB).toArray 29 (0, 0)) := by rw [al6.block _ (by omega)]; exact rowb.out
  replace rowc : (w6.alloc (.cells (jc JX).toArray 29)).heap[w3.heap.size]? = some (.cells (jc job0).toArray 29 (0, 0)) := by rw [al6.block _ (by omega)]; exact rowc.out
  replace rowd : (w6.alloc (.cells (jc JX).toArray 29)).heap[w4.heap.size]? = some (.cells (jc JD).toArray 29 (0, 0)) := by rw [al6.block _ (by omega)]; exact rowd.out
  replace rowe : (w6.alloc (.cells (jc JX).toArray 29)).heap[w5.heap.size]? = some (.cells (jc job0).toArray 29 (0, 0)) := by rw [al6.block _ (by omega)]; exact rowe.out
  replace rowa := hid rowa
  replace rowb := hid rowb
  replace rowc := hid rowc
  replace rowd := hid rowd
  replace rowe := hid rowe
  replace rowf := hid rowf
  go_wp2_with (first
    | (refine wpList_store_row rfl 29 (.tmp 10) (.tmp 39) rfl w6.heap.size (jc JX).toArray rfl rfl 29 _ (heap_alloc_new w6 _) (by kernel_rfl) rfl (jc_all _) ?_; rw [alloc_setRow])
    | (refine wpList_load_row rfl 29 (.tmp 1) rfl _ rfl 29 (jc JA).toArray (0, 0) _ rowa.out Try.underlying29 rfl (by kernel_rfl) ?_))
  refine (finish_any JA 3 0 9 [] _ (by rw [hJA.out]; exact (by decide : (0 : Int) ≤ 0)) (by rw [hJA.out]; exact (by decide : (0 : Int) < 4294967296)) (by rw [hJA.out]; rfl) (by rw [hJA.out]; exact (by decide : 0 * 16 ≤ 140737488355328)) (DAt.nil _ _)).mono ?_
  rintro e w7 ⟨hBT, hb7⟩
  replace rowa : w7.heap[w1.heap.size]? = some (.cells (jc JA).toArray 29 (0, 0)) := by rw [hb7.block _ (by have := size_lit w6 (.cells (jc JX).toArray 29); omega)]; exact rowa.out
  replace rowb : w7.heap[w2.heap.size]? = some (.cells (jc JB).toArray 29 (0, 0)) := by rw [hb7.block _ (by have := size_lit w6 (.cells (jc JX).toArray 29); omega)]; exact rowb.out
  replace rowc : w7.heap[w3.heap.size]? = some (.cells (jc job0).toArray 29 (0, 0)) := by rw [hb7.block _ (by have := size_lit w6 (.cells (jc JX).toArray 29); omega)]; exact rowc.out
  replace rowd : w7.heap[w4.heap.size]? = some (.cells (jc JD).toArray 29 (0, 0)) := by rw [hb7.block _ (by have := size_lit w6 (.cells (jc JX).toArray 29); omega)]; exact rowd.out
  replace rowe : w7.heap[w5.heap.size]? = some (.cells (jc job0).toArray 29 (0, 0)) := by rw [hb7.block _ (by have := size_lit w6 (.cells (jc JX).toArray 29); omega)]; exact rowe.out
  replace rowf : w7.heap[w6.heap.size]? = some (.cells (jc JX).toArray 29 (0, 0)) := by rw [hb7.block _ (by have := size_lit w6 (.cells (jc JX).toArray 29); omega)]; exact rowf.out
  replace rowa := hid rowa
  replace rowb := hid rowb
  replace rowc := hid rowc
  replace rowd := hid rowd
  replace rowe := hid rowe
  replace rowf := hid rowf
  have hz7 := hb7.size
  rw [size_lit] at hz7
  rw [show finE JA 3 9 = 180 from by rw [hJA]; exact e_6 _ _] at hBT
  obtain rfl := hBT.no (by decide)
  clear hBT
  have al7 := below_lit w7 (.cells (jc job0).toArray 29)
  have rowh := heap_alloc_new w7 (.cells (jc job0).toArray 29)
  have D7 := bnext (bnext D6 hb7) al7
  replace rowa : (w7.alloc (.cells (jc job0).toArray 29)).heap[w1.heap.size]? = some (.cells (jc JA).toArray 29 (0, 0)) := by rw [al7.block _ (by omega)]; exact rowa.out
  replace rowb : (w7.alloc (.cells (jc job0).toArray 29)).heap[w2.heap.size]? = some (.cells (jc JB).toArray 29 (0, 0)) := by rw [al7.block _ (by omega)]; exact rowb.out
  replace rowc : (w7.alloc (.cells (jc job0).toArray 29)).heap[w3.heap.size]? = some (.cells (jc job0).toArray 29 (0, 0)) := by rw [al7.block _ (by omega)]; exact rowc.out
  replace rowd : (w7.alloc (.cells (jc job0).toArray 29)).heap[w4.heap.size]? = some (.cells (jc JD).toArray 29 (0, 0)) := by rw [al7.block _ (by omega)]; exact rowd.out
  replace rowe : (w7.alloc (.cells (jc job0).toArray 29)).heap[w5.heap.size]? = some (.cells (jc job0).toArray 29 (0, 0)) := by rw [al7.block _ (by omega)]; exact rowe.out
  replace rowf : (w7.alloc (.cells (jc job0).toArray 29)).heap[w6.heap.size]? = some (.cells (jc JX).toArray 29 (0, 0)) := by rw [al7.block _ (by omega)]; exact rowf.out
  have fa11 := row_cell rowa 11 (.int .u8 1) (by rw [hJA.out]; rfl)
  have fd11 := row_cell rowd 11 (.int .u8 3) (by rw [hJD.out]; rfl)
  have fd14 := row_cell rowd 14 (.int .i64 9) (by rw [hJD.out]; rfl)
  have fd16 := row_cell rowd 16 (.int .i64 0) (by rw [hJD.out]; rfl)
  have ff16 := row_cell rowf 16 (.int .i64 1) (by rw [hJX.out]; rfl)
  replace rowa := hid rowa
  replace rowb := hid rowb
  replace rowc := hid rowc
  replace rowd := hid rowd
  replace rowe := hid rowe
  replace rowf := hid rowf
  have la := World.block_lt_of_cell? _ _ fa11
  have ld := World.block_lt_of_cell? _ _ fd11
  have lf := World.block_lt_of_cell? _ _ ff16
  have kE := fun w => end_any JB w
  rw [show endP JB = 17 from by rw [hJB.out]; exact e_7 _ _] at kE
  have kR := fun w => right_any JA w (by rw [hJA.out]; exact (by decide : (0 : Int) ≤ 0)) (by rw [hJA.out]; exact (by decide : (0 : Int) < 4294967296))
  rw [show rightB JA = true from by rw [hJA.out]; exact e_8 _ _] at kR
  have kO := fun w => over_any 3 w
  rw [show overB 3 = true from rfl] at kO
  go_wp2_with (first
    | (refine wpList_store_row rfl 29 (.tmp 12) (.tmp 44) rfl w7.heap.size (jc job0).toArray rfl rfl 29 _ (heap_alloc_new w7 _) (by kernel_rfl) rfl (jc_all _) ?_; rw [alloc_setRow])
    | (refine gload_row 27 true 73 rfl rfl rfl 29 (.tmp 2) rfl _ rfl 29 (jc JB).toArray (0, 0) _ rowb.out Try.underlying29 (by kernel_rfl) ?_))
  refine (kE _).mono ?_
  rintro e v1 ⟨rfl, hv1⟩
  replace fa11 := stay hv1 fa11
  replace fd11 := stay hv1 fd11
  replace fd14 := stay hv1 fd14
  replace fd16 := stay hv1 fd16
  replace ff16 := stay hv1 ff16
  have rowa2 : v1.heap[w1.heap.size]? = some (.cells (jc JA).toArray 29 (0, 0)) := by rw [hv1.block _ la]; exact rowa.out
  replace rowa2 := hid rowa2
  have la2 := World.block_lt_of_cell? _ _ fa11
  go_wp2_with (refine gload_row 47 true 93 rfl rfl rfl 29 (.tmp 1) rfl _ rfl 29 (jc JA).toArray (0, 0) _ rowa2.out Try.underlying29 (by kernel_rfl) ?_)
  refine (kR _).mono ?_
  rintro e v2 ⟨rfl, hv2⟩
  replace fd11 := stay hv2 fd11
  go_wp2_with fail
  refine (kO _).mono ?_
  rintro e v3 ⟨rfl, rfl⟩
  go_wp2
  go_ret
  exact ⟨rfl, bnext (bnext D7 hv1) hv2⟩

end Go.Proofs.Ytlhmlfinflodaaa
