/- The chapter's examples. -/
import Derived.Test.YtflapjehkgefdaaOr5
namespace Go.Proofs.Ytflapjehkgefdaa
open Go.RowKit
set_option linter.unusedVariables false
set_option linter.unusedSimpArgs false

abbrev tAll : ByteArray := ⟨#[97, 108, 108]⟩
abbrev tNorm : ByteArray := ⟨#[110, 111, 114, 109, 97, 108]⟩
abbrev tHigh : ByteArray := ⟨#[104, 105, 103, 104]⟩
abbrev tMain : ByteArray := ⟨#[109, 97, 105, 110]⟩
abbrev tDebug : ByteArray := ⟨#[100, 101, 98, 117, 103]⟩
abbrev tNo : ByteArray := ⟨#[]⟩
abbrev tX : ByteArray := ⟨#[120]⟩
def aZ : List Int := [4, 8]
def aA : List Acc := [(tAll, tNo, -1)]
def aQ : List Qu := [(tNorm, 0, -1, -1), (tHigh, 5, -1, -1)]
def aM : List (Prt × List ByteArray) := [(⟨tMain, 3, 0, 100, none, 0, 0⟩, []), (⟨tDebug, 3, 2, 100, none, 0, 0⟩, [])]
def aS (p q : ByteArray) : Spc := ⟨tNo, tNo, q, p, 0, 0, 0, none, 0, 0⟩
def aJ (n : Int) (p q : ByteArray) (st : Int) : Job := ⟨n, 0, 0, aS p q, st, 0, 0, 0, 0, 0⟩

theorem a_p1 : prioP aZ aM aA aQ 1 tHigh tDebug = (2007, 0) := by kernel_rfl
theorem a_p2 : prioP aZ aM aA aQ 1 tHigh tX = (0, 141) := by kernel_rfl
theorem a_p3 : prioP [] [] [] [] 0 tNo tNo = (0, 250) := by kernel_rfl

theorem cfr_nil (w : World) : CfR w none none none none 0 0 0 0 0 [] [] [] [] :=
  ⟨rfl, CAt.nil _ _, by omega, rfl, CAt.nil _ _, by omega, (fun p h => by cases h), (fun p h => by cases h), rfl, CAt.nil _ _, by omega, by omega, rfl, CAt.nil _ _, by omega⟩

set_option maxRecDepth 100000 in
set_option maxHeartbeats 1000000 in
theorem ex_any (w : World) : Calls Try.prog 14 #[] w fun e w' => ∃ ca pa aa qa, e = .returned (.agg #[.slice ca 2 2, .slice pa 2 2, .slice aa 1 1, .slice qa 2 2, .int .u8 1]) ∧ CfR w' ca pa aa qa 2 2 1 1 2 aZ aM aA aQ ∧ Below w.heap.size w w' := by
  go_enter Try.func14, Try.ntmps14
  go_wp2
  obtain ⟨c0, hc0⟩ : ∃ c0, c0 = #[Value.slice (some ⟨w.heap.size + 1, 0, none⟩) 2 2, .slice (some ⟨w.heap.size + 1 + 1 + 1 + 1, 0, none⟩) 2 2, .slice (some ⟨w.heap.size + 1 + 1, 0, none⟩) 1 1, .slice (some ⟨w.heap.size + 1 + 1 + 1, 0, none⟩) 2 2, .int .u8 1] := ⟨_, rfl⟩
  obtain ⟨c1, hc1⟩ : ∃ c1, c1 = #[Value.int .i64 4, .int .i64 8] := ⟨_, rfl⟩
  obtain ⟨c2, hc2⟩ : ∃ c2, c2 = #[Value.string tAll, .string tNo, .int .i64 (-1)] := ⟨_, rfl⟩
  obtain ⟨c3, hc3⟩ : ∃ c3, c3 = #[Value.string tNorm, .int .i64 0, .int .i64 (-1), .int .i64 (-1), .string tHigh, .int .i64 5, .int .i64 (-1), .int .i64 (-1)] := ⟨_, rfl⟩
  obtain ⟨c5, hc5⟩ : ∃ c5, c5 = #[Value.string tMain, .int .u32 3, .int .i64 0, .int .i64 100, .slice none 0 0, .string tDebug, .int .u32 3, .int .i64 2, .int .i64 100, .slice none 0 0] := ⟨_, rfl⟩
  simp only [← hc0, ← hc1, ← hc2, ← hc3, ← hc5]
  obtain ⟨w1, hw1⟩ : ∃ w1, w1 = w.alloc (.cells c0 28) := ⟨_, rfl⟩
  obtain ⟨w2, hw2⟩ : ∃ w2, w2 = w1.alloc (.cells c1 3) := ⟨_, rfl⟩
  obtain ⟨w3, hw3⟩ : ∃ w3, w3 = w2.alloc (.cells c2 65) := ⟨_, rfl⟩
  obtain ⟨w4, hw4⟩ : ∃ w4, w4 = w3.alloc (.cells c3 67) := ⟨_, rfl⟩
  obtain ⟨w6, hw6⟩ : ∃ w6, w6 = w4.alloc (.cells c5 70) := ⟨_, rfl⟩
  simp only [← hw1, ← hw2, ← hw3, ← hw4, ← hw6]
  have z1 : w1.heap.size = w.heap.size + 1 := by rw [hw1, size_lit]
  have z2 : w2.heap.size = w.heap.size + 1 + 1 := by rw [hw2, size_lit, z1]
  have z3 : w3.heap.size = w.heap.size + 1 + 1 + 1 := by rw [hw3, size_lit, z2]
  have z4 : w4.heap.size = w.heap.size + 1 + 1 + 1 + 1 := by rw [hw4, size_lit, z3]
  have b1 : Below w.heap.size w w1 := by rw [hw1]; exact below_lit _ _
  have b2 : Below w1.heap.size w1 w2 := by rw [hw2]; exact below_lit _ _
  have b3 : Below w2.heap.size w2 w3 := by rw [hw3]; exact below_lit _ _
  have b4 : Below w3.heap.size w3 w4 := by rw [hw4]; exact below_lit _ _
  have d5 : Below w4.heap.size w4 w6 := by rw [hw6]; exact below_lit _ _
  have d4 := bnext b4 d5
  have d3 := bnext b3 d4
  have d2 := bnext b2 d3
  have d1 := bnext b1 d2
  have i1 : IAt w6 (some ⟨w.heap.size + 1, 0, none⟩) aZ := IAt.below (w := w2) (by rw [hw2, ← z1]; exact cat_lit _ _ _ _ (by rw [hc1]; rfl)) d3
  have i2 : AAt w6 (some ⟨w.heap.size + 1 + 1, 0, none⟩) aA := AAt.below (w := w3) (by rw [hw3, ← z2]; exact cat_lit _ _ _ _ (by rw [hc2]; rfl)) d4
  have i3 : QAt w6 (some ⟨w.heap.size + 1 + 1 + 1, 0, none⟩) aQ := QAt.below (w := w4) (by rw [hw4, ← z3]; exact cat_lit _ _ _ _ (by rw [hc3]; rfl)) d5
  have i5 : PtAt w6 (some ⟨w.heap.size + 1 + 1 + 1 + 1, 0, none⟩) (aM.map (·.1)) := by rw [hw6, ← z4]; exact cat_lit _ _ _ _ (by rw [hc5]; rfl)
  have hg : w6.heap[w.heap.size]? = some (.cells c0 28 (0, 0)) := by
    rw [d2.block _ (by omega), hw1]; exact heap_alloc_new _ _
  refine bodyPost_ret (results_cell_row rfl _ _ w.heap.size 28 c0 (0, 0) _ rfl hg Try.underlying28 rfl (by rw [hc0]; kernel_rfl)) rfl ?_
  refine ⟨_, _, _, _, by rw [hc0], ⟨rfl, i1, by omega, rfl, i5, by omega, ?_, ?_, rfl, i2, by omega, by omega, rfl, i3, by omega⟩, d1⟩
  · intro p hp
    simp only [aM, List.mem_cons, List.not_mem_nil, or_false] at hp
    rcases hp with rfl | rfl
    · exact ⟨rfl, TAt.nil _ _, by dsimp only; omega⟩
    · exact ⟨rfl, TAt.nil _ _, by dsimp only; omega⟩
  · intro p hp
    simp only [aM, List.mem_cons, List.not_mem_nil, or_false] at hp
    rcases hp with rfl | rfl
    · exact ⟨3, rfl, by omega⟩
    · exact ⟨3, rfl, by omega⟩

set_option maxRecDepth 100000 in
set_option maxHeartbeats 1000000 in
theorem aj_any (n : Int) (p q : ByteArray) (w : World) : Calls Try.prog 12 #[.int .i64 n, .string p, .string q] w fun e w' => e = .returned (.agg (jc (aJ n p q 1)).toArray) ∧ Below w.heap.size w w' := by
  have hg := heap_alloc_new w (.cells (jc (aJ n p q 1)).toArray 40)
  replace hg := hid hg
  go_enter Try.func12, Try.ntmps12
  go_wp2_with (refine wpList_store_row rfl 40 (.tmp 6) (.tmp 11) rfl w.heap.size (jc (aJ n p q 1)).toArray rfl rfl 40 _ (heap_alloc_new w _) (by kernel_rfl) rfl (jc_all _) ?_; rw [alloc_setRow])
  (try simp only [Exit.inBlock, Exit.then])
  refine bodyPost_ret (results_cell_row rfl _ _ w.heap.size 40 (jc (aJ n p q 1)).toArray (0, 0) _ rfl hg.out Try.underlying40 rfl (by kernel_rfl)) rfl ?_
  exact ⟨rfl, below_lit _ _⟩

/-- A slice literal of five structs. -/
theorem wpList_five {ops : Array Oper} {rest : List Oper} {o : Oper} {a : Act} {w : World} {Q : Exit → Act → World → Prop} (hg : o.guard = none) (t e : TypeId) (x0 x1 x2 x3 x4 : Operand) (ho : o.op = .buildSlice t 5 #[(0, x0), (1, x1), (2, x2), (3, x3), (4, x4)])
    (J0 J1 J2 J3 J4 : Job) (ie : TypeInfo) (z : Value) (hu : Try.prog.underlying t = some (.slice e)) (hie : Try.prog.info? e = some ie) (hz : ie.zero = some z) (hsz : ie.size = 17)
    (h0 : a.eval x0 = .agg (jc J0).toArray) (h1 : a.eval x1 = .agg (jc J1).toArray) (h2 : a.eval x2 = .agg (jc J2).toArray) (h3 : a.eval x3 = .agg (jc J3).toArray) (h4 : a.eval x4 = .agg (jc J4).toArray)
    (h : wpList Try.prog ops Q rest (a.put o.dst (.slice (some ⟨w.heap.size, 0, none⟩) 5 5)) (w.alloc (.cells ([J0, J1, J2, J3, J4].flatMap jc).toArray e))) : wpList Try.prog ops Q (o :: rest) a w := by
  refine wpList_buildSlice hg t e 5 _ ho _ ie z hu hie hz (by rw [hsz]; omega) (by rw [hsz]; omega) ?_ h
  have e1 : ((#[(0, x0), (1, x1), (2, x2), (3, x3), (4, x4)] : Array (Nat × Operand)).map fun (i, x) => (i, a.eval x)).toList = (([Value.agg (jc J0).toArray, Value.agg (jc J1).toArray, Value.agg (jc J2).toArray, Value.agg (jc J3).toArray, Value.agg (jc J4).toArray].zipIdx 0).map fun x => (x.2, x.1)) := by simp [h0, h1, h2, h3, h4]
  rw [e1, hsz]
  have := Great.fill_whole (s := 17) (by omega) [Value.agg (jc J0).toArray, Value.agg (jc J1).toArray, Value.agg (jc J2).toArray, Value.agg (jc J3).toArray, Value.agg (jc J4).toArray] ((Array.range (5 * 17)).map (z.cells[· % z.cells.size]!)) (fun v hv => by
    simp only [List.mem_cons, List.not_mem_nil, or_false] at hv
    rcases hv with rfl | rfl | rfl | rfl | rfl <;> rfl) (by simp)
  rw [this]
  simp [Value.cells]
end Go.Proofs.Ytflapjehkgefdaa
