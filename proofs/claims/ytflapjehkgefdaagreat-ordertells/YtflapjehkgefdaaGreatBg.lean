/- The chapter's examples. -/
import Derived.Test.YtflapjehkgefdaaGreatOr5
namespace Go.Proofs.YtflapjehkgefdaaGreat
open Go.RowKit
set_option linter.unusedVariables false
set_option linter.unusedSimpArgs false

abbrev tAll : ByteArray := ⟨#[97, 108, 108]⟩
abbrev tNorm : ByteArray := ⟨#[110, 111, 114, 109, 97, 108]⟩
abbrev tHigh : ByteArray := ⟨#[104, 105, 103, 104]⟩
abbrev tMain : ByteArray := ⟨#[109, 97, 105, 110]⟩
abbrev tDebug : ByteArray := ⟨#[100, 101, 98, 117, 103]⟩
abbrev tNo : ByteArray := ⟨#[]⟩
abbrev tX : ByteArray := ⟨#[120]⟩
def aZ : List Int := [4, 8]
def aA : List Acc := [(tAll, tNo, -1)]
def aQ : List Qu := [(tNorm, 0, -1, -1), (tHigh, 5, -1, -1)]
def aM : List (Prt × List ByteArray) := [(⟨tMain, 3, 0, 100, none, 0, 0⟩, []), (⟨tDebug, 3, 2, 100, none, 0, 0⟩, [])]
def aS (p q : ByteArray) : Spc := ⟨tNo, tNo, q, p, 0, 0, 0, none, 0, 0⟩
def aJ (n : Int) (p q : ByteArray) (st : Int) : Job := ⟨n, 0, 0, aS p q, st, 0, 0, 0, 0, 0⟩

theorem a_p1 : prioP aZ aM aA aQ 1 tHigh tDebug = (2007, 0) := by kernel_rfl
theorem a_p2 : prioP aZ aM aA aQ 1 tHigh tX = (0, 141) := by kernel_rfl
theorem a_p3 : prioP [] [] [] [] 0 tNo tNo = (0, 250) := by kernel_rfl

theorem cfr_nil (w : World) : CfR w none none none none 0 0 0 0 0 [] [] [] [] :=
  ⟨rfl, CAt.nil _ _, by omega, rfl, CAt.nil _ _, by omega, (fun p h => by cases h), (fun p h => by cases h), rfl, CAt.nil _ _, by omega, by omega, rfl, CAt.nil _ _, by omega⟩

set_option maxRecDepth 100000 in
set_option maxHeartbeats 1000000 in
theorem ex_any (w : World) : Calls Tryz.prog 18 #[] w fun e w' => ∃ ca pa aa qa, e = .returned (.agg #[.slice ca 2 2, .slice pa 2 2, .slice aa 1 1, .slice qa 2 2, .int .u8 1]) ∧ CfR w' ca pa aa qa 2 2 1 1 2 aZ aM aA aQ ∧ Below w.heap.size w w' := by
  go_enter Tryz.func18, Tryz.ntmps18
  go_wp2
  obtain ⟨c0, hc0⟩ : ∃ c0, c0 = #[Value.slice (some ⟨w.heap.size + 1, 0, none⟩) 2 2, .slice (some ⟨w.heap.size + 1 + 1 + 1 + 1, 0, none⟩) 2 2, .slice (some ⟨w.heap.size + 1 + 1, 0, none⟩) 1 1, .slice (some ⟨w.heap.size + 1 + 1 + 1, 0, none⟩) 2 2, .int .u8 1] := ⟨_, rfl⟩
  obtain ⟨c1, hc1⟩ : ∃ c1, c1 = #[Value.int .i64 4, .int .i64 8] := ⟨_, rfl⟩
  obtain ⟨c2, hc2⟩ : ∃ c2, c2 = #[Value.string tAll, .string tNo, .int .i64 (-1)] := ⟨_, rfl⟩
  obtain ⟨c3, hc3⟩ : ∃ c3, c3 = #[Value.string tNorm, .int .i64 0, .int .i64 (-1), .int .i64 (-1), .string tHigh, .int .i64 5, .int .i64 (-1), .int .i64 (-1)] := ⟨_, rfl⟩
  obtain ⟨c5, hc5⟩ : ∃ c5, c5 = #[Value.string tMain, .int .u32 3, .int .i64 0, .int .i64 100, .slice none 0 0, .string tDebug, .int .u32 3, .int .i64 2, .int .i64 100, .slice none 0 0] := ⟨_, rfl⟩
  simp only [← hc0, ← hc1, ← hc2, ← hc3, ← hc5]
  obtain ⟨w1, hw1⟩ : ∃ w1, w1 = w.alloc (.cells c0 28) := ⟨_, rfl⟩
  obtain ⟨w2, hw2⟩ : ∃ w2, w2 = w1.alloc (.cells c1 3) := ⟨_, rfl⟩
  obtain ⟨w3, hw3⟩ : ∃ w3, w3 = w2.alloc (.cells c2 80) := ⟨_, rfl⟩
  obtain ⟨w4, hw4⟩ : ∃ w4, w4 = w3.alloc (.cells c3 64) := ⟨_, rfl⟩
  obtain ⟨w6, hw6⟩ : ∃ w6, w6 = w4.alloc (.cells c5 67) := ⟨_, rfl⟩
  simp only [← hw1, ← hw2, ← hw3, ← hw4, ← hw6]
  have z1 : w1.heap.size = w.heap.size + 1 := by rw [hw1, size_lit]
  have z2 : w2.heap.size = w.heap.size + 1 + 1 := by rw [hw2, size_lit, z1]
  have z3 : w3.heap.size = w.heap.size + 1 + 1 + 1 := by rw [hw3, size_lit, z2]
  have z4 : w4.heap.size = w.heap.size + 1 + 1 + 1 + 1 := by rw [hw4, size_lit, z3]
  have b1 : Below w.heap.size w w1 := by rw [hw1]; exact below_lit _ _
  have b2 : Below w1.heap.size w1 w2 := by rw [hw2]; exact below_lit _ _
  have b3 : Below w2.heap.size w2 w3 := by rw [hw3]; exact below_lit _ _
  have b4 : Below w3.heap.size w3 w4 := by rw [hw4]; exact below_lit _ _
  have d5 : Below w4.heap.size w4 w6 := by rw [hw6]; exact below_lit _ _
  have d4 := bnext b4 d5
  have d3 := bnext b3 d4
  have d2 := bnext b2 d3
  have d1 := bnext b1 d2
  have i1 : IAt w6 (some ⟨w.heap.size + 1, 0, none⟩) aZ := IAt.below (w := w2) (by rw [hw2, ← z1]; exact cat_lit _ _ _ _ (by rw [hc1]; rfl)) d3
  have i2 : AAt w6 (some ⟨w.heap.size + 1 + 1, 0, none⟩) aA := AAt.below (w := w3) (by rw [hw3, ← z2]; exact cat_lit _ _ _ _ (by rw [hc2]; rfl)) d4
  have i3 : QAt w6 (some ⟨w.heap.size + 1 + 1 + 1, 0, none⟩) aQ := QAt.below (w := w4) (by rw [hw4, ← z3]; exact cat_lit _ _ _ _ (by rw [hc3]; rfl)) d5
  have i5 : PtAt w6 (some ⟨w.heap.size + 1 + 1 + 1 + 1, 0, none⟩) (aM.map (·.1)) := by rw [hw6, ← z4]; exact cat_lit _ _ _ _ (by rw [hc5]; rfl)
  have hg : w6.heap[w.heap.size]? = some (.cells c0 28 (0, 0)) := by
    rw [d2.block _ (by omega), hw1]; exact heap_alloc_new _ _
  refine bodyPost_ret (results_cell_row rfl _ _ w.heap.size 28 c0 (0, 0) _ rfl hg Tryz.underlying28 rfl (by rw [hc0]; kernel_rfl)) rfl ?_
  refine ⟨_, _, _, _, by rw [hc0], ⟨rfl, i1, by omega, rfl, i5, by omega, ?_, ?_, rfl, i2, by omega, by omega, rfl, i3, by omega⟩, d1⟩
  · intro p hp
    simp only [aM, List.mem_cons, List.not_mem_nil, or_false] at hp
    rcases hp with rfl | rfl
    · exact ⟨rfl, TAt.nil _ _, by dsimp only; omega⟩
    · exact ⟨rfl, TAt.nil _ _, by dsimp only; omega⟩
  · intro p hp
    simp only [aM, List.mem_cons, List.not_mem_nil, or_false] at hp
    rcases hp with rfl | rfl
    · exact ⟨3, rfl, by omega⟩
    · exact ⟨3, rfl, by omega⟩

set_option maxRecDepth 100000 in
set_option maxHeartbeats 1000000 in
theorem aj_any (n : Int) (p q : ByteArray) (w : World) : Calls Tryz.prog 17 #[.int .i64 n, .string p, .string q] w fun e w' => e = .returned (.agg (jc (aJ n p q 1)).toArray) ∧ Below w.heap.size w w' := by
  have hg := heap_alloc_new w (.cells (jc (aJ n p q 1)).toArray 37)
  replace hg := hid hg
  go_enter Tryz.func17, Tryz.ntmps17
  go_wp2_with (refine wpList_store_row rfl 37 (.tmp 6) (.tmp 11) rfl w.heap.size (jc (aJ n p q 1)).toArray rfl rfl 37 _ (heap_alloc_new w _) (by kernel_rfl) rfl (jc_all _) ?_; rw [alloc_setRow])
  (try simp only [Exit.inBlock, Exit.then])
  refine bodyPost_ret (results_cell_row rfl _ _ w.heap.size 37 (jc (aJ n p q 1)).toArray (0, 0) _ rfl hg.out Tryz.underlying37 rfl (by kernel_rfl)) rfl ?_
  exact ⟨rfl, below_lit _ _⟩

/-- A slice literal of five structs. -/
theorem wpList_five {ops : Array Oper} {rest : List Oper} {o : Oper} {a : Act} {w : World} {Q : Exit → Act → World → Prop} (hg : o.guard = none) (t e : TypeId) (x0 x1 x2 x3 x4 : Operand) (ho : o.op = .buildSlice t 5 #[(0, x0), (1, x1), (2, x2), (3, x3), (4, x4)])
    (J0 J1 J2 J3 J4 : Job) (ie : TypeInfo) (z : Value) (hu : Tryz.prog.underlying t = some (.slice e)) (hie : Tryz.prog.info? e = some ie) (hz : ie.zero = some z) (hsz : ie.size = 17)
    (h0 : a.eval x0 = .agg (jc J0).toArray) (h1 : a.eval x1 = .agg (jc J1).toArray) (h2 : a.eval x2 = .agg (jc J2).toArray) (h3 : a.eval x3 = .agg (jc J3).toArray) (h4 : a.eval x4 = .agg (jc J4).toArray)
    (h : wpList Tryz.prog ops Q rest (a.put o.dst (.slice (some ⟨w.heap.size, 0, none⟩) 5 5)) (w.alloc (.cells ([J0, J1, J2, J3, J4].flatMap jc).toArray e))) : wpList Tryz.prog ops Q (o :: rest) a w := by
  refine wpList_buildSlice hg t e 5 _ ho _ ie z hu hie hz (by rw [hsz]; omega) (by rw [hsz]; omega) ?_ h
  have e1 : ((#[(0, x0), (1, x1), (2, x2), (3, x3), (4, x4)] : Array (Nat × Operand)).map fun (i, x) => (i, a.eval x)).toList = (([Value.agg (jc J0).toArray, Value.agg (jc J1).toArray, Value.agg (jc J2).toArray, Value.agg (jc J3).toArray, Value.agg (jc J4).toArray].zipIdx 0).map fun x => (x.2, x.1)) := by simp [h0, h1, h2, h3, h4]
  rw [e1, hsz]
  have := Great.fill_whole (s := 17) (by omega) [Value.agg (jc J0).toArray, Value.agg (jc J1).toArray, Value.agg (jc J2).toArray, Value.agg (jc J3).toArray, Value.agg (jc J4).toArray] ((Array.range (5 * 17)).map (z.cells[· % z.cells.size]!)) (fun v hv => by
    simp only [List.mem_cons, List.not_mem_nil, or_false] at hv
    rcases hv with rfl | rfl | rfl | rfl | rfl <;> rfl) (by simp)
  rw [this]
  simp [Value.cells]
end Go.Proofs.YtflapjehkgefdaaGreat

namespace Go.Proofs.YtflapjehkgefdaaGreat
open Go.RowKit
set_option linter.unusedVariables false
set_option linter.unusedSimpArgs false

abbrev j1 : Job := aJ 1 tMain tNorm 1
abbrev j2 : Job := aJ 2 tMain tHigh 1
abbrev j3 : Job := aJ 3 tMain tNorm 1
abbrev j4 : Job := aJ 4 tDebug tNorm 1
abbrev j5 : Job := ⟨5, 0, 0, ⟨tNo, tNo, tNo, tNo, 0, 0, 0, none, 0, 0⟩, 2, 0, 0, 0, 0, 0⟩
theorem a_q1 : prQ aZ aM aA aQ 1 j1 = 0 := by kernel_rfl
theorem a_q2 : prQ aZ aM aA aQ 1 j2 = 5 := by kernel_rfl
theorem a_q3 : prQ aZ aM aA aQ 1 j3 = 0 := by kernel_rfl
theorem a_q4 : prQ aZ aM aA aQ 1 j4 = 2002 := by kernel_rfl
theorem a_q : IsQ (prQ aZ aM aA aQ 1) (·.id) pend [j1, j2, j3, j4, j5] [4, 2, 1, 3] := by
  refine ⟨[j4, j2, j1, j3], ?_, ?_, rfl⟩
  · have e : [j1, j2, j3, j4, j5].filter pend = [j1, j2, j3, j4] := rfl
    rw [e]
    exact ((List.Perm.swap _ _ _).trans ((List.Perm.cons _ (List.Perm.swap _ _ _)).trans (List.Perm.swap _ _ _))).trans (List.Perm.cons _ (List.Perm.cons _ (List.Perm.swap _ _ _)))
  · unfold SortedQ
    simp only [List.pairwise_cons, List.mem_cons, List.not_mem_nil, or_false, forall_eq_or_imp, forall_eq, leQ, a_q1, a_q2, a_q3, a_q4, List.Pairwise.nil, and_true]
    refine ⟨⟨?_, ?_, ?_⟩, ⟨?_, ?_⟩, ?_, ?_⟩
    all_goals first | decide | (intro x h; exact h.elim)

theorem a_q_len {q : List Int} (h : IsQ (prQ aZ aM aA aQ 1) (·.id) pend [j1, j2, j3, j4, j5] q) : q = [4, 2, 1, 3] := IsQ.uniq _ _ a_q h

set_option maxRecDepth 100000 in
set_option maxHeartbeats 2000000 in
theorem awake_any (w : World) : Calls Tryz.prog 5 #[] w fun e w' => e = .returned (.bool true) ∧ Below w.heap.size w w' := by
  obtain ⟨i0, hi, hz0, hz1, hz2⟩ := info_parts info53
  go_enter Tryz.func5, Tryz.ntmps5
  go_wp2_with fail
  refine (ex_any w).mono ?_
  rintro e w1 ⟨ca, pa, aa, qa, rfl, hC, B⟩
  have k1 := prio_any ca pa aa qa 2 2 2 2 1 1 2 2 1 aZ aM aA aQ (aS tDebug tHigh) w1 hC
  have k1' : Calls Tryz.prog 8 #[.agg #[.slice ca 2 2, .slice pa 2 2, .slice aa 1 1, .slice qa 2 2, .int .u8 1], .agg #[.string tNo, .string tNo, .string tHigh, .string tDebug, .int .i64 0, .int .i64 0, .int .i64 0, .slice none 0 0]] w1 (PrioT (2007, 0) w1) := by rw [← a_p1]; exact k1
  clear k1 hC
  go_wp2_with fail
  refine k1'.mono ?_
  clear k1'
  rintro e w2 ⟨rfl, hb⟩
  replace B := bnext B hb
  clear hb
  go_wp2_with fail
  refine (ex_any w2).mono ?_
  rintro e w3 ⟨ca2, pa2, aa2, qa2, rfl, hC, hb⟩
  replace B := bnext B hb
  have k1 := prio_any ca2 pa2 aa2 qa2 2 2 2 2 1 1 2 2 1 aZ aM aA aQ (aS tX tHigh) w3 hC
  have k1' : Calls Tryz.prog 8 #[.agg #[.slice ca2 2 2, .slice pa2 2 2, .slice aa2 1 1, .slice qa2 2 2, .int .u8 1], .agg #[.string tNo, .string tNo, .string tHigh, .string tX, .int .i64 0, .int .i64 0, .int .i64 0, .slice none 0 0]] w3 (PrioT (0, 141) w3) := by rw [← a_p2]; exact k1
  clear k1 hC hb
  go_wp2_with fail
  refine k1'.mono ?_
  clear k1'
  rintro e w4 ⟨rfl, hb⟩
  replace B := bnext B hb
  clear hb
  have k1 := prio_any none none none none 0 0 0 0 0 0 0 0 0 [] [] [] [] (aS tNo tNo) w4 (cfr_nil _)
  have k1' : Calls Tryz.prog 8 #[.agg #[.slice none 0 0, .slice none 0 0, .slice none 0 0, .slice none 0 0, .int .u8 0], .agg #[.string tNo, .string tNo, .string tNo, .string tNo, .int .i64 0, .int .i64 0, .int .i64 0, .slice none 0 0]] w4 (PrioT (0, 250) w4) := by rw [← a_p3]; exact k1
  clear k1
  go_wp2_with fail
  refine k1'.mono ?_
  clear k1'
  rintro e w5 ⟨rfl, hb⟩
  replace B := bnext B hb
  clear hb
  go_wp2_with fail
  refine (ex_any w5).mono ?_
  rintro e w6 ⟨ca3, pa3, aa3, qa3, rfl, hC, hb⟩
  replace B := bnext B hb
  replace hC := hid hC
  clear hb
  go_wp2_with fail
  refine (aj_any _ _ _ _).mono ?_
  rintro e w7 ⟨rfl, hb⟩
  replace B := bnext B hb
  replace hC := hid (hC.out.below hb)
  clear hb
  go_wp2_with fail
  refine (aj_any _ _ _ _).mono ?_
  rintro e w8 ⟨rfl, hb⟩
  replace B := bnext B hb
  replace hC := hid (hC.out.below hb)
  clear hb
  go_wp2_with fail
  refine (aj_any _ _ _ _).mono ?_
  rintro e w9 ⟨rfl, hb⟩
  replace B := bnext B hb
  replace hC := hid (hC.out.below hb)
  clear hb
  go_wp2_with fail
  refine (aj_any _ _ _ _).mono ?_
  rintro e w10 ⟨rfl, hb⟩
  replace B := bnext B hb
  replace hC := hid (hC.out.below hb)
  clear hb
  have bl := below_lit w10 (.cells ([j1, j2, j3, j4, j5].flatMap jc).toArray 37)
  have hat : JAt (w10.alloc (.cells ([j1, j2, j3, j4, j5].flatMap jc).toArray 37)) (some ⟨w10.heap.size, 0, none⟩) [j1, j2, j3, j4, j5] := cat_lit w10 37 _ _ (by simp)
  have kQ := queue_any ca3 pa3 aa3 qa3 2 2 2 2 1 1 2 2 1 aZ aM aA aQ (some ⟨w10.heap.size, 0, none⟩) 5 5 [j1, j2, j3, j4, j5] (w10.alloc (.cells ([j1, j2, j3, j4, j5].flatMap jc).toArray 37)) (hC.out.below bl) rfl (by omega) hat
  have B10 := bnext B bl
  clear bl hat
  go_wp2_with (refine wpList_five rfl 29 37 _ _ _ _ _ rfl j1 j2 j3 j4 j5 i0 _ Tryz.underlying29 hi hz0 hz1 rfl rfl rfl rfl rfl ?_)
  refine kQ.mono ?_
  clear kQ
  rintro e w11 ⟨ra, rc, q, rfl, hq, hqa, hqc, hb⟩
  have hq4 := a_q_len hq
  subst hq4
  replace B := bnext B10 hb
  clear hb hq B10 hqc
  have bl := below_lit w11 (.cells #[.int .i64 4, .int .i64 2, .int .i64 1, .int .i64 3] 3)
  have kS := sameints ra (some ⟨w11.heap.size, 0, none⟩) 4 rc 4 [4, 2, 1, 3] (w11.alloc (.cells #[.int .i64 4, .int .i64 2, .int .i64 1, .int .i64 3] 3)) rfl (by omega) (hqa.below bl) (cat_lit w11 3 _ _ rfl)
  replace B := bnext B bl
  have hlen : ([4, 2, 1, 3] : List Int).length = 4 := rfl
  clear bl hqa
  go_wp2_with fail
  refine kS.mono ?_
  clear kS
  rintro e w12 ⟨rfl, hb⟩
  replace B := bnext B hb
  clear hb
  go_wp2
  go_ret
  exact ⟨rfl, B⟩
end Go.Proofs.YtflapjehkgefdaaGreat

namespace Go.Proofs.YtflapjehkgefdaaGreat
open Go.RowKit
set_option linter.unusedVariables false

def bigB (cn pn ak qk k : Nat) : Bool := decide (60 < cn ∨ 60 < pn ∨ 60 < ak ∨ 60 < qk ∨ 60 < k)
set_option maxRecDepth 100000 in
set_option maxHeartbeats 1000000 in
theorem big_any (ca pa aa qa : Option Addr) (cn cc pn pc ak az qk qc : Nat) (pol : Int) (a : Option Addr) (k c : Nat) (w : World) :
    Calls Tryz.prog 4 #[.agg #[.slice ca cn cc, .slice pa pn pc, .slice aa ak az, .slice qa qk qc, .int .u8 pol], .slice a k c] w fun e w' => e = .returned (.bool (bigB cn pn ak qk k)) ∧ Below w.heap.size w w' := by
  have bl := below_lit w (.cells #[.slice ca cn cc, .slice pa pn pc, .slice aa ak az, .slice qa qk qc, .int .u8 pol] 28)
  by_cases h0 : 60 < cn
  · have d0 : (60 : Int) < (cn : Int) := by omega
    have hf := hid (show bigB cn pn ak qk k = true from decide_eq_true (by omega))
    go_enter Tryz.func4, Tryz.ntmps4
    go_wp2
    go_ret
    exact ⟨ret_bool hf.out.symm, bl⟩
  have d0 : ¬ (60 : Int) < (cn : Int) := by omega
  by_cases h1 : 60 < pn
  · have d1 : (60 : Int) < (pn : Int) := by omega
    have hf := hid (show bigB cn pn ak qk k = true from decide_eq_true (by omega))
    go_enter Tryz.func4, Tryz.ntmps4
    go_wp2
    go_ret
    exact ⟨ret_bool hf.out.symm, bl⟩
  have d1 : ¬ (60 : Int) < (pn : Int) := by omega
  by_cases h2 : 60 < ak
  · have d2 : (60 : Int) < (ak : Int) := by omega
    have hf := hid (show bigB cn pn ak qk k = true from decide_eq_true (by omega))
    go_enter Tryz.func4, Tryz.ntmps4
    go_wp2
    go_ret
    exact ⟨ret_bool hf.out.symm, bl⟩
  have d2 : ¬ (60 : Int) < (ak : Int) := by omega
  by_cases h3 : 60 < qk
  · have d3 : (60 : Int) < (qk : Int) := by omega
    have hf := hid (show bigB cn pn ak qk k = true from decide_eq_true (by omega))
    go_enter Tryz.func4, Tryz.ntmps4
    go_wp2
    go_ret
    exact ⟨ret_bool hf.out.symm, bl⟩
  have d3 : ¬ (60 : Int) < (qk : Int) := by omega
  by_cases h4 : 60 < k
  · have d4 : (60 : Int) < (k : Int) := by omega
    have hf := hid (show bigB cn pn ak qk k = true from decide_eq_true (by omega))
    go_enter Tryz.func4, Tryz.ntmps4
    go_wp2
    go_ret
    exact ⟨ret_bool hf.out.symm, bl⟩
  have d4 : ¬ (60 : Int) < (k : Int) := by omega
  have hf := hid (show bigB cn pn ak qk k = false from decide_eq_false (by omega))
  go_enter Tryz.func4, Tryz.ntmps4
  go_wp2
  go_ret
  exact ⟨ret_bool hf.out.symm, bl⟩

end Go.Proofs.YtflapjehkgefdaaGreat
