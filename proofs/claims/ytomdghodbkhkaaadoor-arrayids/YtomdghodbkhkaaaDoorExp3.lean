/- Expand: ids that are too great. -/
import Derived.Test.YtomdghodbkhkaaaDoorExp1
namespace Go.Proofs.YtomdghodbkhkaaaDoor
open Go.RowKit
set_option linter.unusedVariables false
set_option linter.unusedSimpArgs false


set_option maxRecDepth 100000 in
set_option maxHeartbeats 800000 in
theorem ex_over_z (id : Int) (a : Option Addr) (k c : Nat) (L : List Int) (s : Spc) (now : Int) (D : List Dp) (w : World) (hn : L.length = k) (hl : k ≤ 4611686018427387904) (hat : IAt w a L) (hD : D.length = s.dn) (hsl : s.dn * 16 ≤ 140737488355328) (hda : DAt w s.da D)
    (hid1 : 1 ≤ id) (hid2 : id ≤ 9223372036854775807) (hk0 : k = 0) (hmb : rightB (mkJ 1 s now) = true) (hov : 1073741824 - (cntE L : Int) + 1 < id) :
    Calls Tryd.prog 9 #[.int .i64 id, .slice a k c, .agg (sc s).toArray, .int .i64 now] w fun e w' => ExTold w' w.heap.size L id s now D e ∧ Below w.heap.size w w' := by
  have B0 : Below w.heap.size w (w.alloc (.cells #[.string s.user, .string s.acct, .string s.qos, .string s.part, .int .i64 s.nodes, .int .i64 s.cores, .int .i64 s.lim, .slice s.da s.dn s.dc] 33)) := below_lit w _
  have hrow : (w.alloc (.cells #[.string s.user, .string s.acct, .string s.qos, .string s.part, .int .i64 s.nodes, .int .i64 s.cores, .int .i64 s.lim, .slice s.da s.dn s.dc] 33)).heap[w.heap.size]? = some (.cells #[.string s.user, .string s.acct, .string s.qos, .string s.part, .int .i64 s.nodes, .int .i64 s.cores, .int .i64 s.lim, .slice s.da s.dn s.dc] 33 (0, 0)) := heap_alloc_new w _
  have hlt0 := (Array.getElem?_eq_some_iff.1 hrow).1
  have kM := fun w' hb => may_any s now D w' hD hsl (hda.below (w' := w') hb)
  change ∀ w', _ → Calls Tryd.prog 19 #[.agg #[.string s.user, .string s.acct, .string s.qos, .string s.part, .int .i64 s.nodes, .int .i64 s.cores, .int .i64 s.lim, .slice s.da s.dn s.dc], .int .i64 now] w' _ at kM
  change Calls Tryd.prog 9 #[.int .i64 id, .slice a k c, .agg #[.string s.user, .string s.acct, .string s.qos, .string s.part, .int .i64 s.nodes, .int .i64 s.cores, .int .i64 s.lim, .slice s.da s.dn s.dc], .int .i64 now] w _
  have d1 : decide (id < 1) = false := decide_eq_false (by omega)
  subst hk0
  have d2 : decide ((0 : Int) < ((0 : Nat) : Int)) = false := rfl
  have hcn : cntE L = 1 := by unfold cntE; rw [if_pos (by omega)]
  have hE : exE L id s now = 120 := by unfold exE; rw [if_neg (by rintro (h | h | h); omega; exact h.1 (by omega); rw [hmb] at h; cases h), if_pos hov]
  have hT : ∀ W, ExTold W w.heap.size L id s now D (.returned (.tuple #[.slice none 0 0, .int .i64 120])) := fun W => .inl (by rw [hE]; exact ⟨by decide, rfl⟩)
  rw [hcn] at hov
  generalize ExTold = T at *
  have d3 : decide (1073741824 - 1 + 1 < id) = true := decide_eq_true (by omega)
  have d4 : decide (1073741824 < id) = true := decide_eq_true (by omega)
  have m1 : ((0 : Nat) : Int) ≤ 1 := by omega
  replace hE := hid hE
  replace hT := hid hT
  have hR := hid hmb
  replace hcn := hid hcn
  clear hmb
  replace hrow := hid hrow
  replace hat := hid hat
  replace hda := hid hda
  replace hD := hid hD
  replace hn := hid hn
  replace kM := hid kM
  go_enter Tryd.func9, Tryd.ntmps9
  go_wp2_with fail
  have kM1 := kM.out (w.alloc (.cells #[.string s.user, .string s.acct, .string s.qos, .string s.part, .int .i64 s.nodes, .int .i64 s.cores, .int .i64 s.lim, .slice s.da s.dn s.dc] 33)) B0
  rw [hR.out] at kM1
  refine kM1.mono ?_
  rintro e w2 ⟨rfl, hb2⟩
  have B2 := bnext B0 hb2
  have row2 := hid (show w2.heap[w.heap.size]? = some (.cells #[.string s.user, .string s.acct, .string s.qos, .string s.part, .int .i64 s.nodes, .int .i64 s.cores, .int .i64 s.lim, .slice s.da s.dn s.dc] 33 (0, 0)) by rw [hb2.block _ hlt0]; exact hrow.out)
  go_wp2
  go_ret2
  exact ⟨hT.out _, B2⟩

set_option maxRecDepth 100000 in
set_option maxHeartbeats 800000 in
theorem ex_over_o (id : Int) (a : Option Addr) (k c : Nat) (L : List Int) (s : Spc) (now : Int) (D : List Dp) (w : World) (hn : L.length = k) (hl : k ≤ 4611686018427387904) (hat : IAt w a L) (hD : D.length = s.dn) (hsl : s.dn * 16 ≤ 140737488355328) (hda : DAt w s.da D)
    (hid1 : 1 ≤ id) (hid2 : id ≤ 9223372036854775807) (hk0 : 0 < k) (hLB : listB L = true) (hk1 : k = 1) (hmb : rightB (mkJ 1 s now) = true) (hov : 1073741824 - (cntE L : Int) + 1 < id) (h32 : k ≤ 32) :
    Calls Tryd.prog 9 #[.int .i64 id, .slice a k c, .agg (sc s).toArray, .int .i64 now] w fun e w' => ExTold w' w.heap.size L id s now D e ∧ Below w.heap.size w w' := by
  have B0 : Below w.heap.size w (w.alloc (.cells #[.string s.user, .string s.acct, .string s.qos, .string s.part, .int .i64 s.nodes, .int .i64 s.cores, .int .i64 s.lim, .slice s.da s.dn s.dc] 33)) := below_lit w _
  have hrow : (w.alloc (.cells #[.string s.user, .string s.acct, .string s.qos, .string s.part, .int .i64 s.nodes, .int .i64 s.cores, .int .i64 s.lim, .slice s.da s.dn s.dc] 33)).heap[w.heap.size]? = some (.cells #[.string s.user, .string s.acct, .string s.qos, .string s.part, .int .i64 s.nodes, .int .i64 s.cores, .int .i64 s.lim, .slice s.da s.dn s.dc] 33 (0, 0)) := heap_alloc_new w _
  have hlt0 := (Array.getElem?_eq_some_iff.1 hrow).1
  have kM := fun w' hb => may_any s now D w' hD hsl (hda.below (w' := w') hb)
  change ∀ w', _ → Calls Tryd.prog 19 #[.agg #[.string s.user, .string s.acct, .string s.qos, .string s.part, .int .i64 s.nodes, .int .i64 s.cores, .int .i64 s.lim, .slice s.da s.dn s.dc], .int .i64 now] w' _ at kM
  change Calls Tryd.prog 9 #[.int .i64 id, .slice a k c, .agg #[.string s.user, .string s.acct, .string s.qos, .string s.part, .int .i64 s.nodes, .int .i64 s.cores, .int .i64 s.lim, .slice s.da s.dn s.dc], .int .i64 now] w _
  have d1 : decide (id < 1) = false := decide_eq_false (by omega)
  have d2 : decide ((0 : Int) < (k : Int)) = true := decide_eq_true (by omega)
  have kL := list_any a k c L (w.alloc (.cells #[.string s.user, .string s.acct, .string s.qos, .string s.part, .int .i64 s.nodes, .int .i64 s.cores, .int .i64 s.lim, .slice s.da s.dn s.dc] 33)) hn hl (hat.below B0)
  rw [hLB] at kL
  have hcn : cntE L = 1 := by unfold cntE; rw [if_pos (by omega)]
  have hE : exE L id s now = 120 := by unfold exE; rw [if_neg (by rintro (h | h | h); omega; rw [hLB] at h; cases h.2; rw [hmb] at h; cases h), if_pos hov]
  have hT : ∀ W, ExTold W w.heap.size L id s now D (.returned (.tuple #[.slice none 0 0, .int .i64 120])) := fun W => .inl (by rw [hE]; exact ⟨by decide, rfl⟩)
  rw [hcn] at hov
  generalize ExTold = T at *
  have d3 : decide (1073741824 - 1 + 1 < id) = true := decide_eq_true (by omega)
  have d4 : decide (1073741824 < id) = true := decide_eq_true (by omega)
  have m1 : ((k : Nat) : Int) ≤ 1 := by omega
  replace hk1 := hid hk1
  replace hE := hid hE
  replace hT := hid hT
  have hR := hid hmb
  replace hcn := hid hcn
  clear hmb
  replace hrow := hid hrow
  replace hat := hid hat
  replace hda := hid hda
  replace hD := hid hD
  replace hn := hid hn
  replace kM := hid kM
  go_enter Tryd.func9, Tryd.ntmps9
  go_wp2_with fail
  refine kL.mono ?_
  rintro e w1 ⟨rfl, hb1⟩
  have B1 := bnext B0 hb1
  have row1 : w1.heap[w.heap.size]? = some (.cells #[.string s.user, .string s.acct, .string s.qos, .string s.part, .int .i64 s.nodes, .int .i64 s.cores, .int .i64 s.lim, .slice s.da s.dn s.dc] 33 (0, 0)) := by rw [hb1.block _ hlt0]; exact hrow.out
  have lt1 : w.heap.size < w1.heap.size := Nat.lt_of_lt_of_le hlt0 hb1.size
  have y0 := row_cell row1 0 (.string s.user) rfl
  have y1 := row_cell row1 1 (.string s.acct) rfl
  have y2 := row_cell row1 2 (.string s.qos) rfl
  have y3 := row_cell row1 3 (.string s.part) rfl
  have y4 := row_cell row1 4 (.int .i64 s.nodes) rfl
  have y5 := row_cell row1 5 (.int .i64 s.cores) rfl
  have y6 := row_cell row1 6 (.int .i64 s.lim) rfl
  have y7 := row_cell row1 7 (.slice s.da s.dn s.dc) rfl
  replace row1 := hid row1
  go_wp2_with fail
  have kM1 := kM.out w1 B1
  rw [hR.out] at kM1
  refine kM1.mono ?_
  rintro e w2 ⟨rfl, hb2⟩
  have B2 := bnext B1 hb2
  have row2 := hid (show w2.heap[w.heap.size]? = some (.cells #[.string s.user, .string s.acct, .string s.qos, .string s.part, .int .i64 s.nodes, .int .i64 s.cores, .int .i64 s.lim, .slice s.da s.dn s.dc] 33 (0, 0)) by rw [hb2.block _ lt1]; exact row1.out)
  go_wp2
  go_ret2
  exact ⟨hT.out _, B2⟩

set_option maxRecDepth 100000 in
set_option maxHeartbeats 800000 in
theorem ex_over_m (id : Int) (a : Option Addr) (k c : Nat) (L : List Int) (s : Spc) (now : Int) (D : List Dp) (w : World) (hn : L.length = k) (hl : k ≤ 4611686018427387904) (hat : IAt w a L) (hD : D.length = s.dn) (hsl : s.dn * 16 ≤ 140737488355328) (hda : DAt w s.da D)
    (hid1 : 1 ≤ id) (hid2 : id ≤ 9223372036854775807) (hk0 : 0 < k) (hLB : listB L = true) (hk1 : 1 < k) (hmb : rightB (mkJ 1 s now) = true) (hov : 1073741824 - (cntE L : Int) + 1 < id) (h32 : k ≤ 32) :
    Calls Tryd.prog 9 #[.int .i64 id, .slice a k c, .agg (sc s).toArray, .int .i64 now] w fun e w' => ExTold w' w.heap.size L id s now D e ∧ Below w.heap.size w w' := by
  have B0 : Below w.heap.size w (w.alloc (.cells #[.string s.user, .string s.acct, .string s.qos, .string s.part, .int .i64 s.nodes, .int .i64 s.cores, .int .i64 s.lim, .slice s.da s.dn s.dc] 33)) := below_lit w _
  have hrow : (w.alloc (.cells #[.string s.user, .string s.acct, .string s.qos, .string s.part, .int .i64 s.nodes, .int .i64 s.cores, .int .i64 s.lim, .slice s.da s.dn s.dc] 33)).heap[w.heap.size]? = some (.cells #[.string s.user, .string s.acct, .string s.qos, .string s.part, .int .i64 s.nodes, .int .i64 s.cores, .int .i64 s.lim, .slice s.da s.dn s.dc] 33 (0, 0)) := heap_alloc_new w _
  have hlt0 := (Array.getElem?_eq_some_iff.1 hrow).1
  have kM := fun w' hb => may_any s now D w' hD hsl (hda.below (w' := w') hb)
  change ∀ w', _ → Calls Tryd.prog 19 #[.agg #[.string s.user, .string s.acct, .string s.qos, .string s.part, .int .i64 s.nodes, .int .i64 s.cores, .int .i64 s.lim, .slice s.da s.dn s.dc], .int .i64 now] w' _ at kM
  change Calls Tryd.prog 9 #[.int .i64 id, .slice a k c, .agg #[.string s.user, .string s.acct, .string s.qos, .string s.part, .int .i64 s.nodes, .int .i64 s.cores, .int .i64 s.lim, .slice s.da s.dn s.dc], .int .i64 now] w _
  have d1 : decide (id < 1) = false := decide_eq_false (by omega)
  have d2 : decide ((0 : Int) < (k : Int)) = true := decide_eq_true (by omega)
  have kL := list_any a k c L (w.alloc (.cells #[.string s.user, .string s.acct, .string s.qos, .string s.part, .int .i64 s.nodes, .int .i64 s.cores, .int .i64 s.lim, .slice s.da s.dn s.dc] 33)) hn hl (hat.below B0)
  rw [hLB] at kL
  have hcn : cntE L = k := by unfold cntE; rw [if_neg (by omega), hn]
  have hE : exE L id s now = 120 := by unfold exE; rw [if_neg (by rintro (h | h | h); omega; rw [hLB] at h; cases h.2; rw [hmb] at h; cases h), if_pos hov]
  have hT : ∀ W, ExTold W w.heap.size L id s now D (.returned (.tuple #[.slice none 0 0, .int .i64 120])) := fun W => .inl (by rw [hE]; exact ⟨by decide, rfl⟩)
  rw [hcn] at hov
  generalize ExTold = T at *
  have d3 : decide (1073741824 - (k : Int) + 1 < id) = true := decide_eq_true (by omega)
  have m1 : (1 : Int) < (k : Int) := by omega
  replace hE := hid hE
  replace hT := hid hT
  have hR := hid hmb
  replace hcn := hid hcn
  clear hmb
  replace hrow := hid hrow
  replace hat := hid hat
  replace hda := hid hda
  replace hD := hid hD
  replace hn := hid hn
  replace kM := hid kM
  go_enter Tryd.func9, Tryd.ntmps9
  go_wp2_with fail
  refine kL.mono ?_
  rintro e w1 ⟨rfl, hb1⟩
  have B1 := bnext B0 hb1
  have row1 : w1.heap[w.heap.size]? = some (.cells #[.string s.user, .string s.acct, .string s.qos, .string s.part, .int .i64 s.nodes, .int .i64 s.cores, .int .i64 s.lim, .slice s.da s.dn s.dc] 33 (0, 0)) := by rw [hb1.block _ hlt0]; exact hrow.out
  have lt1 : w.heap.size < w1.heap.size := Nat.lt_of_lt_of_le hlt0 hb1.size
  have y0 := row_cell row1 0 (.string s.user) rfl
  have y1 := row_cell row1 1 (.string s.acct) rfl
  have y2 := row_cell row1 2 (.string s.qos) rfl
  have y3 := row_cell row1 3 (.string s.part) rfl
  have y4 := row_cell row1 4 (.int .i64 s.nodes) rfl
  have y5 := row_cell row1 5 (.int .i64 s.cores) rfl
  have y6 := row_cell row1 6 (.int .i64 s.lim) rfl
  have y7 := row_cell row1 7 (.slice s.da s.dn s.dc) rfl
  replace row1 := hid row1
  go_wp2_with fail
  have kM1 := kM.out w1 B1
  rw [hR.out] at kM1
  refine kM1.mono ?_
  rintro e w2 ⟨rfl, hb2⟩
  have B2 := bnext B1 hb2
  have row2 := hid (show w2.heap[w.heap.size]? = some (.cells #[.string s.user, .string s.acct, .string s.qos, .string s.part, .int .i64 s.nodes, .int .i64 s.cores, .int .i64 s.lim, .slice s.da s.dn s.dc] 33 (0, 0)) by rw [hb2.block _ lt1]; exact row1.out)
  go_wp2
  go_ret2
  exact ⟨hT.out _, B2⟩
end Go.Proofs.YtomdghodbkhkaaaDoor
