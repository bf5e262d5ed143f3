/- Expand: ids that are too great. -/
import Derived.Test.YtomdghodbkhkaaaGreatDoorExp1
namespace Go.Proofs.YtomdghodbkhkaaaGreatDoor
open Go.RowKit
set_option linter.unusedVariables false
set_option linter.unusedSimpArgs false


set_option maxRecDepth 100000 in
set_option maxHeartbeats 800000 in
theorem ex_over_z (id : Int) (a : Option Addr) (k c : Nat) (L : List Int) (s : Spc) (now : Int) (D : List Dp) (w : World) (hn : L.length = k) (hl : k ≤ 4611686018427387904) (hat : IAt w a L) (hD : D.length = s.dn) (hsl : s.dn * 16 ≤ 140737488355328) (hda : DAt w s.da D)
    (hid1 : 1 ≤ id) (hid2 : id ≤ 9223372036854775807) (hk0 : k = 0) (hmb : rightB (mkJ 1 s now) = true) (hov : 1073741824 - (cntE L : Int) + 1 < id) :
    Calls Tryz.prog 13 #[.int .i64 id, .slice a k c, .agg (sc s).toArray, .int .i64 now] w fun e w' => ExTold w' w.heap.size L id s now D e ∧ Below w.heap.size w w' := by
  have B0 : Below w.heap.size w (w.alloc (.cells #[.string s.user, .string s.acct, .string s.qos, .string s.part, .int .i64 s.nodes, .int .i64 s.cores, .int .i64 s.lim, .slice s.da s.dn s.dc] 34)) := below_lit w _
  have hrow : (w.alloc (.cells #[.string s.user, .string s.acct, .string s.qos, .string s.part, .int .i64 s.nodes, .int .i64 s.cores, .int .i64 s.lim, .slice s.da s.dn s.dc] 34)).heap[w.heap.size]? = some (.cells #[.string s.user, .string s.acct, .string s.qos, .string s.part, .int .i64 s.nodes, .int .i64 s.cores, .int .i64 s.lim, .slice s.da s.dn s.dc] 34 (0, 0)) := heap_alloc_new w _
  have hlt0 := (Array.getElem?_eq_some_iff.1 hrow).1
  have kM := fun w' hb => may_any s now D w' hD hsl (hda.below (w' := w') hb)
  change ∀ w', _ → Calls Tryz.prog 30 #[.agg #[.string s.user, .string s.acct, .string s.qos, .string s.part, .int .i64 s.nodes, .int .i64 s.cores, .int .i64 s.lim, .slice s.da s.dn s.dc], .int .i64 now] w' _ at kM
  change Calls Tryz.prog 13 #[.int .i64 id, .slice a k c, .agg #[.string s.user, .string s.acct, .string s.qos, .string s.part, .int .i64 s.nodes, .int .i64 s.cores, .int .i64 s.lim, .slice s.da s.dn s.dc], .int .i64 now] w _
  have d1 : decide (id < 1) = false := decide_eq_false (by omega)
  subst hk0
  have d2 : decide ((0 : Int) < ((0 : Nat) : Int)) = false := rfl
  have hcn : cntE L = 1 := by unfold cntE; rw [if_pos (by omega)]
  have hE : exE L id s now = 120 := by unfold exE; rw [if_neg (by rintro (h | h | h); omega; exact h.1 (by omega); rw [hmb] at h; cases h), if_pos hov]
  have hT : ∀ W, ExTold W w.heap.size L id s now D (.returned (.tuple #[.slice none 0 0, .int .i64 120])) := fun W => .inl (by rw [hE]; exact ⟨by decide, rfl⟩)
  rw [hcn] at hov
  generalize ExTold = T at *
  have d3 : decide (1073741824 - 1 + 1 < id) = true := decide_eq_true (by omega)
  have d4 : decide (1073741824 < id) = true := decide_eq_true (by omega)
  have m1 : ((0 : Nat) : Int) ≤ 1 := by omega
  replace hE := hid hE
  replace hT := hid hT
  have hR := hid hmb
  replace hcn := hid hcn
  clear hmb
  replace hrow := hid hrow
  replace hat := hid hat
  replace hda := hid hda
  replace hD := hid hD
  replace hn := hid hn
  replace kM := hid kM
  go_enter Tryz.func13, Tryz.ntmps13
  go_wp2_with fail
  have kM1 := kM.out (w.alloc (.cells #[.string s.user, .string s.acct, .string s.qos, .string s.part, .int .i64 s.nodes, .int .i64 s.cores, .int .i64 s.lim, .slice s.da s.dn s.dc] 34)) B0
  rw [hR.out] at kM1
  refine kM1.mono ?_
  rintro e w2 ⟨rfl, hb2⟩
  have B2 := bnext B0 hb2
  have row2 := hid (show w2.heap[w.heap.size]? = some (.cells #[.string s.user, .string s.acct, .string s.qos, .string s.part, .int .i64 s.nodes, .int .i64 s.cores, .int .i64 s.lim, .slice s.da s.dn s.dc] 34 (0, 0)) by rw [hb2.block _ hlt0]; exact hrow.out)
  go_wp2
  go_ret2
  exact ⟨hT.out _, B2⟩

set_option maxRecDepth 100000 in
set_option maxHeartbeats 800000 in
theorem ex_over_o (id : Int) (a : Option Addr) (k c : Nat) (L : List Int) (s : Spc) (now : Int) (D : List Dp) (w : World) (hn : L.length = k) (hl : k ≤ 4611686018427387904) (hat : IAt w a L) (hD : D.length = s.dn) (hsl : s.dn * 16 ≤ 140737488355328) (hda : DAt w s.da D)
    (hid1 : 1 ≤ id) (hid2 : id ≤ 9223372036854775807) (hk0 : 0 < k) (hLB : listB L = true) (hk1 : k = 1) (hmb : rightB (mkJ 1 s now) = true) (hov : 1073741824 - (cntE L : Int) + 1 < id) (h32 : k ≤ 32) :
    Calls Tryz.prog 13 #[.int .i64 id, .slice a k c, .agg (sc s).toArray, .int .i64 now] w fun e w' => ExTold w' w.heap.size L id s now D e ∧ Below w.heap.size w w' := by
  have B0 : Below w.heap.size w (w.alloc (.cells #[.string s.user, .string s.acct, .string s.qos, .string s.part, .int .i64 s.nodes, .int .i64 s.cores, .int .i64 s.lim, .slice s.da s.dn s.dc] 34)) := below_lit w _
  have hrow : (w.alloc (.cells #[.string s.user, .string s.acct, .string s.qos, .string s.part, .int .i64 s.nodes, .int .i64 s.cores, .int .i64 s.lim, .slice s.da s.dn s.dc] 34)).heap[w.heap.size]? = some (.cells #[.string s.user, .string s.acct, .string s.qos, .string s.part, .int .i64 s.nodes, .int .i64 s.cores, .int .i64 s.lim, .slice s.da s.dn s.dc] 34 (0, 0)) := heap_alloc_new w _
  have hlt0 := (Array.getElem?_eq_some_iff.1 hrow).1
  have kM := fun w' hb => may_any s now D w' hD hsl (hda.below (w' := w') hb)
  change ∀ w', _ → Calls Tryz.prog 30 #[.agg #[.string s.user, .string s.acct, .string s.qos, .string s.part, .int .i64 s.nodes, .int .i64 s.cores, .int .i64 s.lim, .slice s.da s.dn s.dc], .int .i64 now] w' _ at kM
  change Calls Tryz.prog 13 #[.int .i64 id, .slice a k c, .agg #[.string s.user, .string s.acct, .string s.qos, .string s.part, .int .i64 s.nodes, .int .i64 s.cores, .int .i64 s.lim, .slice s.da s.dn s.dc], .int .i64 now] w _
  have d1 : decide (id < 1) = false := decide_eq_false (by omega)
  have d2 : decide ((0 : Int) < (k : Int)) = true := decide_eq_true (by omega)
  have kL := list_any a k c L (w.alloc (.cells #[.string s.user, .string s.acct, .string s.qos, .string s.part, .int .i64 s.nodes, .int .i64 s.cores, .int .i64 s.lim, .slice s.da s.dn s.dc] 34)) hn hl (hat.below B0)
  rw [hLB] at kL
  have hcn : cntE L = 1 := by unfold cntE; rw [if_pos (by omega)]
  have hE : exE L id s now = 120 := by unfold exE; rw [if_neg (by rintro (h | h | h); omega; rw [hLB] at h; cases h.2; rw [hmb] at h; cases h), if_pos hov]
  have hT : ∀ W, ExTold W w.heap.size L id s now D (.returned (.tuple #[.slice none 0 0, .int .i64 120])) := fun W => .inl (by rw [hE]; exact ⟨by decide, rfl⟩)
  rw [hcn] at hov
  generalize ExTold = T at *
  have d3 : decide (1073741824 - 1 + 1 < id) = true := decide_eq_true (by omega)
  have d4 : decide (1073741824 < id) = true := decide_eq_true (by omega)
  have m1 : ((k : Nat) : Int) ≤ 1 := by omega
  replace hk1 := hid hk1
  replace hE := hid hE
  replace hT := hid hT
  have hR := hid hmb
  replace hcn := hid hcn
  clear hmb
  replace hrow := hid hrow
  replace hat := hid hat
  replace hda := hid hda
  replace hD := hid hD
  replace hn := hid hn
  replace kM := hid kM
  go_enter Tryz.func13, Tryz.ntmps13
  go_wp2_with fail
  refine kL.mono ?_
  rintro e w1 ⟨rfl, hb1⟩
  have B1 := bnext B0 hb1
  have row1 : w1.heap[w.heap.size]? = some (.cells #[.string s.user, .string s.acct, .string s.qos, .string s.part, .int .i64 s.nodes, .int .i64 s.cores, .int .i64 s.lim, .slice s.da s.dn s.dc] 34 (0, 0)) := by rw [hb1.block _ hlt0]; exact hrow.out
  have lt1 : w.heap.size < w1.heap.size := Nat.lt_of_lt_of_le hlt0 hb1.size
  have y0 := row_cell row1 0 (.string s.user) rfl
  have y1 := row_cell row1 1 (.string s.acct) rfl
  have y2 := row_cell row1 2 (.string s.qos) rfl
  have y3 := row_cell row1 3 (.string s.part) rfl
  have y4 := row_cell row1 4 (.int .i64 s.nodes) rfl
  have y5 := row_cell row1 5 (.int .i64 s.cores) rfl
  have y6 := row_cell row1 6 (.int .i64 s.lim) rfl
  have y7 := row_cell row1 7 (.slice s.da s.dn s.dc) rfl
  replace row1 := hid row1
  go_wp2_with fail
  have kM1 := kM.out w1 B1
  rw [hR.out] at kM1
  refine kM1.mono ?_
  rintro e w2 ⟨rfl, hb2⟩
  have B2 := bnext B1 hb2
  have row2 := hid (show w2.heap[w.heap.size]? = some (.cells #[.string s.user, .string s.acct, .string s.qos, .string s.part, .int .i64 s.nodes, .int .i64 s.cores, .int .i64 s.lim, .slice s.da s.dn s.dc] 34 (0, 0)) by rw [hb2.block _ lt1]; exact row1.out)
  go_wp2
  go_ret2
  exact ⟨hT.out _, B2⟩

set_option maxRecDepth 100000 in
set_option maxHeartbeats 800000 in
theorem ex_over_m (id : Int) (a : Option Addr) (k c : Nat) (L : List Int) (s : Spc) (now : Int) (D : List Dp) (w : World) (hn : L.length = k) (hl : k ≤ 4611686018427387904) (hat : IAt w a L) (hD : D.length = s.dn) (hsl : s.dn * 16 ≤ 140737488355328) (hda : DAt w s.da D)
    (hid1 : 1 ≤ id) (hid2 : id ≤ 9223372036854775807) (hk0 : 0 < k) (hLB : listB L = true) (hk1 : 1 < k) (hmb : rightB (mkJ 1 s now) = true) (hov : 1073741824 - (cntE L : Int) + 1 < id) (h32 : k ≤ 32) :
    Calls Tryz.prog 13 #[.int .i64 id, .slice a k c, .agg (sc s).toArray, .int .i64 now] w fun e w' => ExTold w' w.heap.size L id s now D e ∧ Below w.heap.size w w' := by
  have B0 : Below w.heap.size w (w.alloc (.cells #[.string s.user, .string s.acct, .string s.qos, .string s.part, .int .i64 s.nodes, .int .i64 s.cores, .int .i64 s.lim, .slice s.da s.dn s.dc] 34)) := below_lit w _
  have hrow : (w.alloc (.cells #[.string s.user, .string s.acct, .string s.qos, .string s.part, .int .i64 s.nodes, .int .i64 s.cores, .int .i64 s.lim, .slice s.da s.dn s.dc] 34)).heap[w.heap.size]? = some (.cells #[.string s.user, .string s.acct, .string s.qos, .string s.part, .int .i64 s.nodes, .int .i64 s.cores, .int .i64 s.lim, .slice s.da s.dn s.dc] 34 (0, 0)) := heap_alloc_new w _
  have hlt0 := (Array.getElem?_eq_some_iff.1 hrow).1
  have kM := fun w' hb => may_any s now D w' hD hsl (hda.below (w' := w') hb)
  change ∀ w', _ → Calls Tryz.prog 30 #[.agg #[.string s.user, .string s.acct, .string s.qos, .string s.part, .int .i64 s.nodes, .int .i64 s.cores, .int .i64 s.lim, .slice s.da s.dn s.dc], .int .i64 now] w' _ at kM
  change Calls Tryz.prog 13 #[.int .i64 id, .slice a k c, .agg #[.string s.user, .string s.acct, .string s.qos, .string s.part, .int .i64 s.nodes, .int .i64 s.cores, .int .i64 s.lim, .slice s.da s.dn s.dc], .int .i64 now] w _
  have d1 : decide (id < 1) = false := decide_eq_false (by omega)
  have d2 : decide ((0 : Int) < (k : Int)) = true := decide_eq_true (by omega)
  have kL := list_any a k c L (w.alloc (.cells #[.string s.user, .string s.acct, .string s.qos, .string s.part, .int .i64 s.nodes, .int .i64 s.cores, .int .i64 s.lim, .slice s.da s.dn s.dc] 34)) hn hl (hat.below B0)
  rw [hLB] at kL
  have hcn : cntE L = k := by unfold cntE; rw [if_neg (by omega), hn]
  have hE : exE L id s now = 120 := by unfold exE; rw [if_neg (by rintro (h | h | h); omega; rw [hLB] at h; cases h.2; rw [hmb] at h; cases h), if_pos hov]
  have hT : ∀ W, ExTold W w.heap.size L id s now D (.returned (.tuple #[.slice none 0 0, .int .i64 120])) := fun W => .inl (by rw [hE]; exact ⟨by decide, rfl⟩)
  rw [hcn] at hov
  generalize ExTold = T at *
  have d3 : decide (1073741824 - (k : Int) + 1 < id) = true := decide_eq_true (by omega)
  have m1 : (1 : Int) < (k : Int) := by omega
  replace hE := hid hE
  replace hT := hid hT
  have hR := hid hmb
  replace hcn := hid hcn
  clear hmb
  replace hrow := hid hrow
  replace hat := hid hat
  replace hda := hid hda
  replace hD := hid hD
  replace hn := hid hn
  replace kM := hid kM
  go_enter Tryz.func13, Tryz.ntmps13
  go_wp2_with fail
  refine kL.mono ?_
  rintro e w1 ⟨rfl, hb1⟩
  have B1 := bnext B0 hb1
  have row1 : w1.heap[w.heap.size]? = some (.cells #[.string s.user, .string s.acct, .string s.qos, .string s.part, .int .i64 s.nodes, .int .i64 s.cores, .int .i64 s.lim, .slice s.da s.dn s.dc] 34 (0, 0)) := by rw [hb1.block _ hlt0]; exact hrow.out
  have lt1 : w.heap.size < w1.heap.size := Nat.lt_of_lt_of_le hlt0 hb1.size
  have y0 := row_cell row1 0 (.string s.user) rfl
  have y1 := row_cell row1 1 (.string s.acct) rfl
  have y2 := row_cell row1 2 (.string s.qos) rfl
  have y3 := row_cell row1 3 (.string s.part) rfl
  have y4 := row_cell row1 4 (.int .i64 s.nodes) rfl
  have y5 := row_cell row1 5 (.int .i64 s.cores) rfl
  have y6 := row_cell row1 6 (.int .i64 s.lim) rfl
  have y7 := row_cell row1 7 (.slice s.da s.dn s.dc) rfl
  replace row1 := hid row1
  go_wp2_with fail
  have kM1 := kM.out w1 B1
  rw [hR.out] at kM1
  refine kM1.mono ?_
  rintro e w2 ⟨rfl, hb2⟩
  have B2 := bnext B1 hb2
  have row2 := hid (show w2.heap[w.heap.size]? = some (.cells #[.string s.user, .string s.acct, .string s.qos, .string s.part, .int .i64 s.nodes, .int .i64 s.cores, .int .i64 s.lim, .slice s.da s.dn s.dc] 34 (0, 0)) by rw [hb2.block _ lt1]; exact row1.out)
  go_wp2
  go_ret2
  exact ⟨hT.out _, B2⟩
end Go.Proofs.YtomdghodbkhkaaaGreatDoor

namespace Go.Proofs.YtomdghodbkhkaaaGreatDoor
open Go.RowKit
set_option linter.unusedVariables false
set_option linter.unusedSimpArgs false

theorem make_jobs (n : Nat) (hn : n ≤ 1000) (w : World) : (Instr.makeSlice 38 (.int .i64 (n : Int)) (.int .i64 (n : Int))).run Tryz.prog w = .ok (.slice (some ⟨w.heap.size, 0, none⟩) n n) (w.alloc (.cells ((List.replicate n job0).flatMap jc).toArray 46)) := by
  obtain ⟨i0, hi0, hz0, hz1, hz2⟩ := info_parts info53
  have h := run_make (P := Tryz.prog) w 38 46 i0 _ Tryz.underlying38 hi0 hz0 .i64 .i64 (n : Int) (n : Int) (by omega) (by omega) (by rw [hz2]; omega) (by omega)
  rw [hz1, Int.toNat_natCast] at h
  rw [← made_jobs]
  exact h

set_option maxRecDepth 100000 in
set_option maxHeartbeats 4000000 in
theorem ex_low (id : Int) (a : Option Addr) (k c : Nat) (L : List Int) (s : Spc) (now : Int) (D : List Dp) (w : World) (hn : L.length = k) (hl : k ≤ 4611686018427387904) (hat : IAt w a L) (hD : D.length = s.dn) (hsl : s.dn * 16 ≤ 140737488355328) (hda : DAt w s.da D)
    (hid1 : id < 1) :
    Calls Tryz.prog 13 #[.int .i64 id, .slice a k c, .agg (sc s).toArray, .int .i64 now] w fun e w' => ExTold w' w.heap.size L id s now D e ∧ Below w.heap.size w w' := by
  have hE : exE L id s now = 2 := by unfold exE; rw [if_pos (.inl hid1)]
  have hT : ∀ W, ExTold W w.heap.size L id s now D (.returned (.tuple #[.slice none 0 0, .int .i64 2])) := fun W => .inl (by rw [hE]; exact ⟨by decide, rfl⟩)
  generalize ExTold = T at *
  replace hE := hid hE
  replace hT := hid hT
  change Calls Tryz.prog 13 #[.int .i64 id, .slice a k c, .agg #[.string s.user, .string s.acct, .string s.qos, .string s.part, .int .i64 s.nodes, .int .i64 s.cores, .int .i64 s.lim, .slice s.da s.dn s.dc], .int .i64 now] w _
  have d1 : decide (id < 1) = true := decide_eq_true hid1
  replace hn := hid hn
  replace hat := hid hat
  replace hda := hid hda
  replace hD := hid hD
  go_enter Tryz.func13, Tryz.ntmps13
  go_wp2
  go_ret2
  exact ⟨hT.out _, below_lit _ _⟩

set_option maxRecDepth 100000 in
set_option maxHeartbeats 4000000 in
theorem ex_list (id : Int) (a : Option Addr) (k c : Nat) (L : List Int) (s : Spc) (now : Int) (D : List Dp) (w : World) (hn : L.length = k) (hl : k ≤ 4611686018427387904) (hat : IAt w a L) (hD : D.length = s.dn) (hsl : s.dn * 16 ≤ 140737488355328) (hda : DAt w s.da D)
    (hid1 : 1 ≤ id) (hid2 : id ≤ 9223372036854775807) (hk0 : 0 < k) (hLB : listB L = false) :
    Calls Tryz.prog 13 #[.int .i64 id, .slice a k c, .agg (sc s).toArray, .int .i64 now] w fun e w' => ExTold w' w.heap.size L id s now D e ∧ Below w.heap.size w w' := by
  have hE : exE L id s now = 2 := by unfold exE; rw [if_pos (.inr (.inl ⟨by omega, hLB⟩))]
  have hT : ∀ W, ExTold W w.heap.size L id s now D (.returned (.tuple #[.slice none 0 0, .int .i64 2])) := fun W => .inl (by rw [hE]; exact ⟨by decide, rfl⟩)
  have B0 := below_lit w (.cells #[.string s.user, .string s.acct, .string s.qos, .string s.part, .int .i64 s.nodes, .int .i64 s.cores, .int .i64 s.lim, .slice s.da s.dn s.dc] 34)
  have kL := list_any a k c L _ hn hl (hat.below B0)
  rw [hLB] at kL
  generalize ExTold = T at *
  replace hE := hid hE
  replace hT := hid hT
  replace hLB := hid hLB
  change Calls Tryz.prog 13 #[.int .i64 id, .slice a k c, .agg #[.string s.user, .string s.acct, .string s.qos, .string s.part, .int .i64 s.nodes, .int .i64 s.cores, .int .i64 s.lim, .slice s.da s.dn s.dc], .int .i64 now] w _
  have d1 : decide (id < 1) = false := decide_eq_false (by omega)
  have d2 : decide ((0 : Int) < (k : Int)) = true := decide_eq_true (by omega)
  replace hn := hid hn
  replace hat := hid hat
  replace hda := hid hda
  replace hD := hid hD
  go_enter Tryz.func13, Tryz.ntmps13
  go_wp2_with fail
  refine kL.mono ?_
  rintro e w1 ⟨rfl, hb1⟩
  go_wp2
  go_ret2
  exact ⟨hT.out _, bnext B0 hb1⟩

set_option maxRecDepth 100000 in
set_option maxHeartbeats 4000000 in
theorem ex_bad_z (id : Int) (a : Option Addr) (k c : Nat) (L : List Int) (s : Spc) (now : Int) (D : List Dp) (w : World) (hn : L.length = k) (hl : k ≤ 4611686018427387904) (hat : IAt w a L) (hD : D.length = s.dn) (hsl : s.dn * 16 ≤ 140737488355328) (hda : DAt w s.da D)
    (hid1 : 1 ≤ id) (hid2 : id ≤ 9223372036854775807) (hk0 : k = 0) (hmb : rightB (mkJ 1 s now) = false) :
    Calls Tryz.prog 13 #[.int .i64 id, .slice a k c, .agg (sc s).toArray, .int .i64 now] w fun e w' => ExTold w' w.heap.size L id s now D e ∧ Below w.heap.size w w' := by
  have B0 : Below w.heap.size w (w.alloc (.cells #[.string s.user, .string s.acct, .string s.qos, .string s.part, .int .i64 s.nodes, .int .i64 s.cores, .int .i64 s.lim, .slice s.da s.dn s.dc] 34)) := below_lit w _
  have hrow : (w.alloc (.cells #[.string s.user, .string s.acct, .string s.qos, .string s.part, .int .i64 s.nodes, .int .i64 s.cores, .int .i64 s.lim, .slice s.da s.dn s.dc] 34)).heap[w.heap.size]? = some (.cells #[.string s.user, .string s.acct, .string s.qos, .string s.part, .int .i64 s.nodes, .int .i64 s.cores, .int .i64 s.lim, .slice s.da s.dn s.dc] 34 (0, 0)) := heap_alloc_new w _
  have hlt0 := (Array.getElem?_eq_some_iff.1 hrow).1
  have kM := fun w' hb => may_any s now D w' hD hsl (hda.below (w' := w') hb)
  change ∀ w', _ → Calls Tryz.prog 30 #[.agg #[.string s.user, .string s.acct, .string s.qos, .string s.part, .int .i64 s.nodes, .int .i64 s.cores, .int .i64 s.lim, .slice s.da s.dn s.dc], .int .i64 now] w' _ at kM
  change Calls Tryz.prog 13 #[.int .i64 id, .slice a k c, .agg #[.string s.user, .string s.acct, .string s.qos, .string s.part, .int .i64 s.nodes, .int .i64 s.cores, .int .i64 s.lim, .slice s.da s.dn s.dc], .int .i64 now] w _
  have d1 : decide (id < 1) = false := decide_eq_false (by omega)
  subst hk0
  have d2 : decide ((0 : Int) < ((0 : Nat) : Int)) = false := rfl
  have hE : exE L id s now = 2 := by unfold exE; rw [if_pos (.inr (.inr hmb))]
  have hT : ∀ W, ExTold W w.heap.size L id s now D (.returned (.tuple #[.slice none 0 0, .int .i64 2])) := fun W => .inl (by rw [hE]; exact ⟨by decide, rfl⟩)
  generalize ExTold = T at *
  replace hE := hid hE
  replace hT := hid hT
  have hR := hid hmb
  clear hmb
  replace hrow := hid hrow
  replace hat := hid hat
  replace hda := hid hda
  replace hD := hid hD
  replace hn := hid hn
  replace kM := hid kM
  go_enter Tryz.func13, Tryz.ntmps13
  go_wp2_with fail
  have kM1 := kM.out (w.alloc (.cells #[.string s.user, .string s.acct, .string s.qos, .string s.part, .int .i64 s.nodes, .int .i64 s.cores, .int .i64 s.lim, .slice s.da s.dn s.dc] 34)) B0
  rw [hR.out] at kM1
  refine kM1.mono ?_
  rintro e w2 ⟨rfl, hb2⟩
  have B2 := bnext B0 hb2
  have row2 := hid (show w2.heap[w.heap.size]? = some (.cells #[.string s.user, .string s.acct, .string s.qos, .string s.part, .int .i64 s.nodes, .int .i64 s.cores, .int .i64 s.lim, .slice s.da s.dn s.dc] 34 (0, 0)) by rw [hb2.block _ hlt0]; exact hrow.out)
  go_wp2
  go_ret2
  exact ⟨hT.out _, B2⟩

set_option maxRecDepth 100000 in
set_option maxHeartbeats 4000000 in
theorem ex_bad_p (id : Int) (a : Option Addr) (k c : Nat) (L : List Int) (s : Spc) (now : Int) (D : List Dp) (w : World) (hn : L.length = k) (hl : k ≤ 4611686018427387904) (hat : IAt w a L) (hD : D.length = s.dn) (hsl : s.dn * 16 ≤ 140737488355328) (hda : DAt w s.da D)
    (hid1 : 1 ≤ id) (hid2 : id ≤ 9223372036854775807) (hk0 : 0 < k) (hLB : listB L = true) (hmb : rightB (mkJ 1 s now) = false) :
    Calls Tryz.prog 13 #[.int .i64 id, .slice a k c, .agg (sc s).toArray, .int .i64 now] w fun e w' => ExTold w' w.heap.size L id s now D e ∧ Below w.heap.size w w' := by
  have B0 : Below w.heap.size w (w.alloc (.cells #[.string s.user, .string s.acct, .string s.qos, .string s.part, .int .i64 s.nodes, .int .i64 s.cores, .int .i64 s.lim, .slice s.da s.dn s.dc] 34)) := below_lit w _
  have hrow : (w.alloc (.cells #[.string s.user, .string s.acct, .string s.qos, .string s.part, .int .i64 s.nodes, .int .i64 s.cores, .int .i64 s.lim, .slice s.da s.dn s.dc] 34)).heap[w.heap.size]? = some (.cells #[.string s.user, .string s.acct, .string s.qos, .string s.part, .int .i64 s.nodes, .int .i64 s.cores, .int .i64 s.lim, .slice s.da s.dn s.dc] 34 (0, 0)) := heap_alloc_new w _
  have hlt0 := (Array.getElem?_eq_some_iff.1 hrow).1
  have kM := fun w' hb => may_any s now D w' hD hsl (hda.below (w' := w') hb)
  change ∀ w', _ → Calls Tryz.prog 30 #[.agg #[.string s.user, .string s.acct, .string s.qos, .string s.part, .int .i64 s.nodes, .int .i64 s.cores, .int .i64 s.lim, .slice s.da s.dn s.dc], .int .i64 now] w' _ at kM
  change Calls Tryz.prog 13 #[.int .i64 id, .slice a k c, .agg #[.string s.user, .string s.acct, .string s.qos, .string s.part, .int .i64 s.nodes, .int .i64 s.cores, .int .i64 s.lim, .slice s.da s.dn s.dc], .int .i64 now] w _
  have d1 : decide (id < 1) = false := decide_eq_false (by omega)
  have d2 : decide ((0 : Int) < (k : Int)) = true := decide_eq_true (by omega)
  have kL := list_any a k c L (w.alloc (.cells #[.string s.user, .string s.acct, .string s.qos, .string s.part, .int .i64 s.nodes, .int .i64 s.cores, .int .i64 s.lim, .slice s.da s.dn s.dc] 34)) hn hl (hat.below B0)
  rw [hLB] at kL
  have hE : exE L id s now = 2 := by unfold exE; rw [if_pos (.inr (.inr hmb))]
  have hT : ∀ W, ExTold W w.heap.size L id s now D (.returned (.tuple #[.slice none 0 0, .int .i64 2])) := fun W => .inl (by rw [hE]; exact ⟨by decide, rfl⟩)
  generalize ExTold = T at *
  replace hE := hid hE
  replace hT := hid hT
  have hR := hid hmb
  clear hmb
  replace hrow := hid hrow
  replace hat := hid hat
  replace hda := hid hda
  replace hD := hid hD
  replace hn := hid hn
  replace kM := hid kM
  go_enter Tryz.func13, Tryz.ntmps13
  go_wp2_with fail
  refine kL.mono ?_
  rintro e w1 ⟨rfl, hb1⟩
  have B1 := bnext B0 hb1
  have row1 : w1.heap[w.heap.size]? = some (.cells #[.string s.user, .string s.acct, .string s.qos, .string s.part, .int .i64 s.nodes, .int .i64 s.cores, .int .i64 s.lim, .slice s.da s.dn s.dc] 34 (0, 0)) := by rw [hb1.block _ hlt0]; exact hrow.out
  have lt1 : w.heap.size < w1.heap.size := Nat.lt_of_lt_of_le hlt0 hb1.size
  have y0 := row_cell row1 0 (.string s.user) rfl
  have y1 := row_cell row1 1 (.string s.acct) rfl
  have y2 := row_cell row1 2 (.string s.qos) rfl
  have y3 := row_cell row1 3 (.string s.part) rfl
  have y4 := row_cell row1 4 (.int .i64 s.nodes) rfl
  have y5 := row_cell row1 5 (.int .i64 s.cores) rfl
  have y6 := row_cell row1 6 (.int .i64 s.lim) rfl
  have y7 := row_cell row1 7 (.slice s.da s.dn s.dc) rfl
  replace row1 := hid row1
  go_wp2_with fail
  have kM1 := kM.out w1 B1
  rw [hR.out] at kM1
  refine kM1.mono ?_
  rintro e w2 ⟨rfl, hb2⟩
  have B2 := bnext B1 hb2
  have row2 := hid (show w2.heap[w.heap.size]? = some (.cells #[.string s.user, .string s.acct, .string s.qos, .string s.part, .int .i64 s.nodes, .int .i64 s.cores, .int .i64 s.lim, .slice s.da s.dn s.dc] 34 (0, 0)) by rw [hb2.block _ lt1]; exact row1.out)
  go_wp2
  go_ret2
  exact ⟨hT.out _, B2⟩
end Go.Proofs.YtomdghodbkhkaaaGreatDoor

namespace Go.Proofs.YtomdghodbkhkaaaGreatDoor
open Go.RowKit
set_option linter.unusedVariables false
set_option linter.unusedSimpArgs false

theorem info43s : (Tryz.prog.info? 46).map (·.size) = some 17 := by kernel_rfl

set_option maxRecDepth 100000 in
set_option maxHeartbeats 4000000 in
theorem ex_ok_z (id : Int) (a : Option Addr) (k c : Nat) (L : List Int) (s : Spc) (now : Int) (D : List Dp) (w : World) (hn : L.length = k) (hl : k ≤ 4611686018427387904) (hat : IAt w a L) (hD : D.length = s.dn) (hsl : s.dn * 16 ≤ 140737488355328) (hda : DAt w s.da D)
    (hid1 : 1 ≤ id) (hid2 : id ≤ 9223372036854775807) (hk0 : k = 0) (hmb : rightB (mkJ 1 s now) = true) (hov : ¬ 1073741824 - (cntE L : Int) + 1 < id) :
    Calls Tryz.prog 13 #[.int .i64 id, .slice a k c, .agg (sc s).toArray, .int .i64 now] w fun e w' => ExTold w' w.heap.size L id s now D e ∧ Below w.heap.size w w' := by
  have B0 : Below w.heap.size w (w.alloc (.cells #[.string s.user, .string s.acct, .string s.qos, .string s.part, .int .i64 s.nodes, .int .i64 s.cores, .int .i64 s.lim, .slice s.da s.dn s.dc] 34)) := below_lit w _
  have hrow : (w.alloc (.cells #[.string s.user, .string s.acct, .string s.qos, .string s.part, .int .i64 s.nodes, .int .i64 s.cores, .int .i64 s.lim, .slice s.da s.dn s.dc] 34)).heap[w.heap.size]? = some (.cells #[.string s.user, .string s.acct, .string s.qos, .string s.part, .int .i64 s.nodes, .int .i64 s.cores, .int .i64 s.lim, .slice s.da s.dn s.dc] 34 (0, 0)) := heap_alloc_new w _
  have hlt0 := (Array.getElem?_eq_some_iff.1 hrow).1
  have kM := fun w' hb => may_any s now D w' hD hsl (hda.below (w' := w') hb)
  change ∀ w', _ → Calls Tryz.prog 30 #[.agg #[.string s.user, .string s.acct, .string s.qos, .string s.part, .int .i64 s.nodes, .int .i64 s.cores, .int .i64 s.lim, .slice s.da s.dn s.dc], .int .i64 now] w' _ at kM
  change Calls Tryz.prog 13 #[.int .i64 id, .slice a k c, .agg #[.string s.user, .string s.acct, .string s.qos, .string s.part, .int .i64 s.nodes, .int .i64 s.cores, .int .i64 s.lim, .slice s.da s.dn s.dc], .int .i64 now] w _
  have d1 : decide (id < 1) = false := decide_eq_false (by omega)
  subst hk0
  have d2 : decide ((0 : Int) < ((0 : Nat) : Int)) = false := rfl
  have hcn : cntE L = 1 := by unfold cntE; rw [if_pos (by omega)]
  have hE : exE L id s now = 0 := by unfold exE; rw [if_neg (by rintro (h | h | h); omega; exact h.1 (by omega); rw [hmb] at h; cases h), if_neg hov]
  have hT : ∀ W g M, ExM W w.heap.size g L id s now D M → ExTold W w.heap.size L id s now D (.returned (.tuple #[.slice (some ⟨g, 0, none⟩) 1 1, .int .i64 0])) := fun W g M h => .inr ⟨hE, g, M, by rw [hcn], h⟩
  rw [hcn] at hov
  generalize ExTold = T at *
  have d3 : decide (1073741824 - 1 + 1 < id) = false := decide_eq_false (by omega)
  have d4 : decide (1073741824 < id) = false := decide_eq_false (by omega)
  have hidn : id + 1 ≤ 1073741825 := by omega
  have hkn : 0 ≤ 1 := by omega
  have m1 : ((0 : Nat) : Int) ≤ 1 := by omega
  have hkM := fun kk w' hb => make_any (id + ((kk : Nat) : Int)) s now D w' hD hsl (hda.below (w' := w') hb)
  change ∀ (kk : Nat) w', _ → Calls Tryz.prog 31 #[.int .i64 (id + ((kk : Nat) : Int)), .agg #[.string s.user, .string s.acct, .string s.qos, .string s.part, .int .i64 s.nodes, .int .i64 s.cores, .int .i64 s.lim, .slice s.da s.dn s.dc], .int .i64 now] w' _ at hkM
  have hLk := hid hn
  replace hkM := hid hkM
  replace hE := hid hE
  replace hT := hid hT
  have hR := hid hmb
  have hcn2 := hid hcn
  clear hcn
  clear hmb
  replace hrow := hid hrow
  replace hat := hid hat
  replace hda := hid hda
  replace hD := hid hD
  replace hn := hid hn
  replace kM := hid kM
  go_enter Tryz.func13, Tryz.ntmps13
  go_wp2_with fail
  have kM1 := kM.out (w.alloc (.cells #[.string s.user, .string s.acct, .string s.qos, .string s.part, .int .i64 s.nodes, .int .i64 s.cores, .int .i64 s.lim, .slice s.da s.dn s.dc] 34)) B0
  rw [hR.out] at kM1
  refine kM1.mono ?_
  rintro e w2 ⟨rfl, hb2⟩
  have B2 := bnext B0 hb2
  have row2 := hid (show w2.heap[w.heap.size]? = some (.cells #[.string s.user, .string s.acct, .string s.qos, .string s.part, .int .i64 s.nodes, .int .i64 s.cores, .int .i64 s.lim, .slice s.da s.dn s.dc] 34 (0, 0)) by rw [hb2.block _ hlt0]; exact hrow.out)
  have hmk := make_jobs 1 (by omega) w2
  have hmk2 : (Instr.makeSlice 38 (.int .i64 1) (.int .i64 1)).run Tryz.prog w2 = .ok (.slice (some ⟨w2.heap.size, 0, none⟩) 1 1) (w2.alloc (.cells ((List.replicate 1 job0).flatMap jc).toArray 46)) := hmk
  clear hmk
  have bl3 := below_lit w2 (.cells ((List.replicate 1 job0).flatMap jc).toArray 46)
  have jr3 : JR (w2.alloc (.cells ((List.replicate 1 job0).flatMap jc).toArray 46)) w2.heap.size (List.replicate 1 job0) := heap_alloc_new w2 _
  obtain ⟨W3, hW3⟩ : ∃ W3, W3 = w2.alloc (.cells ((List.replicate 1 job0).flatMap jc).toArray 46) := ⟨_, rfl⟩
  rw [← hW3] at hmk2 bl3 jr3
  obtain ⟨g, hg⟩ : ∃ g, g = w2.heap.size := ⟨_, rfl⟩
  have lt2 : w.heap.size < w2.heap.size := (Array.getElem?_eq_some_iff.1 row2.out).1
  have hs2 := B2.size
  rw [← hg] at hmk2 jr3 lt2 hs2
  have row3 := hid (show W3.heap[w.heap.size]? = some (.cells #[.string s.user, .string s.acct, .string s.qos, .string s.part, .int .i64 s.nodes, .int .i64 s.cores, .int .i64 s.lim, .slice s.da s.dn s.dc] 34 (0, 0)) by rw [bl3.block _ (by omega)]; exact row2.out)
  have B3 := bnext B2 bl3
  have x1 : X1 W3 g 1 id s now D 0 (List.replicate 1 job0) := ⟨jr3, List.length_replicate, fun i hi => absurd hi (Nat.not_lt_zero i), fun i j h1 h2 => absurd h2 (Nat.not_lt_zero j)⟩
  have x1' := hid x1
  have glt := jr3.lt
  clear bl3 jr3 row2 hb2 x1 hg
  replace hW3 := hid hW3
  have hbx := hid (fun (wr : World) (hk : Kp (fun i => i = g) W3 wr) => (show wr.heap[w.heap.size]? = some (.cells #[.string s.user, .string s.acct, .string s.qos, .string s.part, .int .i64 s.nodes, .int .i64 s.cores, .int .i64 s.lim, .slice s.da s.dn s.dc] 34 (0, 0)) by rw [hk.block _ (by omega) (by omega)]; exact row3.out))
  have hBx := hid (fun (wr : World) (hk : Kp (fun i => i = g) W3 wr) => (show Below w.heap.size w wr from B3.trans (hk.below (fun i hi => by omega) (by omega))))
  go_wp2_with fail
  go_loopw [45] (fun i wr => ∃ (kk : Nat) (M : List Job), kk ≤ 1 ∧ i = .int .i64 (kk : Int) ∧ Hid (X1 wr g 1 id s now D kk M) ∧ Hid (Kp (fun i => i = g) W3 wr)) (fun i _ => 1 - (intOf i).toNat)
  case atStart => exact ⟨0, _, Nat.zero_le _, rfl, x1', hid (Kp.refl _ _)⟩
  case round =>
    obtain ⟨kk, M, hkk, rfl, hx, hK⟩ := hrel
    by_cases hlt : kk < 1
    · have row4 := hbx.out wr hK.out
      have B4 := hBx.out wr hK.out
      have hMl := hx.out.len
      have lt4 : w.heap.size < wr.heap.size := (Array.getElem?_eq_some_iff.1 row4).1
      have gl4 := hx.out.row.lt
      have q0 := row_cell row4 0 (.string s.user) rfl
      have q1 := row_cell row4 1 (.string s.acct) rfl
      have q2 := row_cell row4 2 (.string s.qos) rfl
      have q3 := row_cell row4 3 (.string s.part) rfl
      have q4 := row_cell row4 4 (.int .i64 s.nodes) rfl
      have q5 := row_cell row4 5 (.int .i64 s.cores) rfl
      have q6 := row_cell row4 6 (.int .i64 s.lim) rfl
      have q7 := row_cell row4 7 (.slice s.da s.dn s.dc) rfl
      replace row4 := hid row4
      replace hMl := hid hMl
      have kM4 := hkM.out kk wr B4
      go_wp2_with fail
      refine kM4.mono ?_
      rintro e w5 ⟨x, y, rfl, hy, ho, hb5⟩
      have hp := hx.out.put hlt hb5 hy ho
      have hth : w5.there g (kk * 17) 17 := (hx.out.row.below hb5).there (by rw [hMl.out]; exact hlt)
      obtain ⟨J, hJ⟩ : ∃ J, J = (mkJ (id + ((kk : Nat) : Int)) s now).re x y := ⟨_, rfl⟩
      rw [← hJ] at hp ⊢
      replace hJ := hid hJ
      obtain ⟨hp1, hp2⟩ := hp
      have K5 : Kp (fun i => i = g) W3 (w5.setCells g (kk * 17) (jc J)) := (hK.out.then hb5).trans hp2
      obtain ⟨C, hC⟩ : ∃ C, C = (jc J).toArray := ⟨_, rfl⟩
      have hp1' : X1 (w5.setCells g (kk * 17) C.toList) g 1 id s now D (kk + 1) (M.set kk J) := by rw [hC]; exact hp1
      have K5' : Kp (fun i => i = g) W3 (w5.setCells g (kk * 17) C.toList) := by rw [hC]; exact K5
      have hCa : C.all (·.oneCell') = true := by rw [hC]; exact jc_all J
      have hCs : C.size = 17 := by rw [hC]; rfl
      rw [← hC]
      clear hp1 hp2 K5
      replace hC := hid hC
      replace hp1' := hid hp1'
      replace K5' := hid K5'
      replace ho := hid ho
      have hth' : w5.there g (kk * 17) C.size := by rw [hCs]; exact hth
      have hCi : (Tryz.prog.info? 46).map (·.size) = some C.size := by rw [hCs]; exact info43s
      clear hth
      replace hCs := hid hCs
      go_wp2_with (refine wpList_store_mid rfl 46 (.tmp 56) (.tmp 55) rfl g (kk * 17) C rfl rfl hth' hCi hCa ?_)
      go_wp2_with fail
      go_roundw
      case rel => exact ⟨kk + 1, M.set kk J, by omega, by go_num, hp1', K5'⟩
      case measure => simp [intOf]; omega
    · have hke : kk = 1 := by omega
      have hx1 := hx.out
      rw [hke] at hx1
      have hx2 := hid (hx1.all L)
      clear hx1
      clear hx
      replace hke := hid hke
      obtain ⟨wo, hwo⟩ : ∃ wo, wo = wr := ⟨_, rfl⟩
      subst hwo
      have dk : decide (((kk : Nat) : Int) < 1) = false := decide_eq_false (by omega)
      go_wp2_with fail
      go_loopw [60] (fun i wr => ∃ (j : Nat) (M : List Job), j ≤ 0 ∧ i = .int .i64 (j : Int) ∧ Hid (X2 wr g 1 L id s now D j M) ∧ Hid (Kp (fun i => i = g) W3 wr)) (fun i _ => 0 - (intOf i).toNat)
      case atStart => exact ⟨0, _, Nat.zero_le _, rfl, hx2, hK⟩
      case round =>
        obtain ⟨j, M2, hj, rfl, hy, hK2⟩ := hrel
        by_cases hlt2 : j < 0
        · exact absurd hlt2 (Nat.not_lt_zero _)
        · have hje : j = 0 := by omega
          have hdone := hid (hT.out wr g M2 ((show X2 wr g 1 L id s now D L.length M2 by rw [show L.length = j from hLk.out.trans hje.symm]; exact hy.out).done hcn2.out.symm (by omega)))
          have B9 := hBx.out wr hK2.out
          have dj : decide (((j : Nat) : Int) < ((0 : Nat) : Int)) = false := decide_eq_false (by omega)
          replace hje := hid hje
          go_wp2
          go_ret2
          exact ⟨hdone.out, B9⟩
end Go.Proofs.YtomdghodbkhkaaaGreatDoor

namespace Go.Proofs.YtomdghodbkhkaaaGreatDoor
open Go.RowKit
set_option linter.unusedVariables false
set_option linter.unusedSimpArgs false


set_option maxRecDepth 100000 in
set_option maxHeartbeats 4000000 in
theorem ex_ok_o (id : Int) (a : Option Addr) (k c : Nat) (L : List Int) (s : Spc) (now : Int) (D : List Dp) (w : World) (hn : L.length = k) (hl : k ≤ 4611686018427387904) (hat : IAt w a L) (hD : D.length = s.dn) (hsl : s.dn * 16 ≤ 140737488355328) (hda : DAt w s.da D)
    (hid1 : 1 ≤ id) (hid2 : id ≤ 9223372036854775807) (hk0 : 0 < k) (hLB : listB L = true) (hk1 : k = 1) (hmb : rightB (mkJ 1 s now) = true) (hov : ¬ 1073741824 - (cntE L : Int) + 1 < id) (h32 : k ≤ 32) :
    Calls Tryz.prog 13 #[.int .i64 id, .slice a k c, .agg (sc s).toArray, .int .i64 now] w fun e w' => ExTold w' w.heap.size L id s now D e ∧ Below w.heap.size w w' := by
  have B0 : Below w.heap.size w (w.alloc (.cells #[.string s.user, .string s.acct, .string s.qos, .string s.part, .int .i64 s.nodes, .int .i64 s.cores, .int .i64 s.lim, .slice s.da s.dn s.dc] 34)) := below_lit w _
  have hrow : (w.alloc (.cells #[.string s.user, .string s.acct, .string s.qos, .string s.part, .int .i64 s.nodes, .int .i64 s.cores, .int .i64 s.lim, .slice s.da s.dn s.dc] 34)).heap[w.heap.size]? = some (.cells #[.string s.user, .string s.acct, .string s.qos, .string s.part, .int .i64 s.nodes, .int .i64 s.cores, .int .i64 s.lim, .slice s.da s.dn s.dc] 34 (0, 0)) := heap_alloc_new w _
  have hlt0 := (Array.getElem?_eq_some_iff.1 hrow).1
  have kM := fun w' hb => may_any s now D w' hD hsl (hda.below (w' := w') hb)
  change ∀ w', _ → Calls Tryz.prog 30 #[.agg #[.string s.user, .string s.acct, .string s.qos, .string s.part, .int .i64 s.nodes, .int .i64 s.cores, .int .i64 s.lim, .slice s.da s.dn s.dc], .int .i64 now] w' _ at kM
  change Calls Tryz.prog 13 #[.int .i64 id, .slice a k c, .agg #[.string s.user, .string s.acct, .string s.qos, .string s.part, .int .i64 s.nodes, .int .i64 s.cores, .int .i64 s.lim, .slice s.da s.dn s.dc], .int .i64 now] w _
  have d1 : decide (id < 1) = false := decide_eq_false (by omega)
  have d2 : decide ((0 : Int) < (k : Int)) = true := decide_eq_true (by omega)
  have kL := list_any a k c L (w.alloc (.cells #[.string s.user, .string s.acct, .string s.qos, .string s.part, .int .i64 s.nodes, .int .i64 s.cores, .int .i64 s.lim, .slice s.da s.dn s.dc] 34)) hn hl (hat.below B0)
  rw [hLB] at kL
  have hcn : cntE L = 1 := by unfold cntE; rw [if_pos (by omega)]
  have hE : exE L id s now = 0 := by unfold exE; rw [if_neg (by rintro (h | h | h); omega; rw [hLB] at h; cases h.2; rw [hmb] at h; cases h), if_neg hov]
  have hT : ∀ W g M, ExM W w.heap.size g L id s now D M → ExTold W w.heap.size L id s now D (.returned (.tuple #[.slice (some ⟨g, 0, none⟩) 1 1, .int .i64 0])) := fun W g M h => .inr ⟨hE, g, M, by rw [hcn], h⟩
  rw [hcn] at hov
  generalize ExTold = T at *
  have d3 : decide (1073741824 - 1 + 1 < id) = false := decide_eq_false (by omega)
  have d4 : decide (1073741824 < id) = false := decide_eq_false (by omega)
  have hidn : id + 1 ≤ 1073741825 := by omega
  have hkn : k ≤ 1 := by omega
  have m1 : ((k : Nat) : Int) ≤ 1 := by omega
  replace hk1 := hid hk1
  have hkM := fun kk w' hb => make_any (id + ((kk : Nat) : Int)) s now D w' hD hsl (hda.below (w' := w') hb)
  change ∀ (kk : Nat) w', _ → Calls Tryz.prog 31 #[.int .i64 (id + ((kk : Nat) : Int)), .agg #[.string s.user, .string s.acct, .string s.qos, .string s.part, .int .i64 s.nodes, .int .i64 s.cores, .int .i64 s.lim, .slice s.da s.dn s.dc], .int .i64 now] w' _ at hkM
  have hLk := hid hn
  replace hkM := hid hkM
  replace hE := hid hE
  replace hT := hid hT
  have hR := hid hmb
  have hcn2 := hid hcn
  clear hcn
  clear hmb
  replace hrow := hid hrow
  replace hat := hid hat
  replace hda := hid hda
  replace hD := hid hD
  replace hn := hid hn
  replace kM := hid kM
  go_enter Tryz.func13, Tryz.ntmps13
  go_wp2_with fail
  refine kL.mono ?_
  rintro e w1 ⟨rfl, hb1⟩
  have B1 := bnext B0 hb1
  have row1 : w1.heap[w.heap.size]? = some (.cells #[.string s.user, .string s.acct, .string s.qos, .string s.part, .int .i64 s.nodes, .int .i64 s.cores, .int .i64 s.lim, .slice s.da s.dn s.dc] 34 (0, 0)) := by rw [hb1.block _ hlt0]; exact hrow.out
  have lt1 : w.heap.size < w1.heap.size := Nat.lt_of_lt_of_le hlt0 hb1.size
  have y0 := row_cell row1 0 (.string s.user) rfl
  have y1 := row_cell row1 1 (.string s.acct) rfl
  have y2 := row_cell row1 2 (.string s.qos) rfl
  have y3 := row_cell row1 3 (.string s.part) rfl
  have y4 := row_cell row1 4 (.int .i64 s.nodes) rfl
  have y5 := row_cell row1 5 (.int .i64 s.cores) rfl
  have y6 := row_cell row1 6 (.int .i64 s.lim) rfl
  have y7 := row_cell row1 7 (.slice s.da s.dn s.dc) rfl
  replace row1 := hid row1
  go_wp2_with fail
  have kM1 := kM.out w1 B1
  rw [hR.out] at kM1
  refine kM1.mono ?_
  rintro e w2 ⟨rfl, hb2⟩
  have B2 := bnext B1 hb2
  have row2 := hid (show w2.heap[w.heap.size]? = some (.cells #[.string s.user, .string s.acct, .string s.qos, .string s.part, .int .i64 s.nodes, .int .i64 s.cores, .int .i64 s.lim, .slice s.da s.dn s.dc] 34 (0, 0)) by rw [hb2.block _ lt1]; exact row1.out)
  have hmk := make_jobs 1 (by omega) w2
  have hmk2 : (Instr.makeSlice 38 (.int .i64 1) (.int .i64 1)).run Tryz.prog w2 = .ok (.slice (some ⟨w2.heap.size, 0, none⟩) 1 1) (w2.alloc (.cells ((List.replicate 1 job0).flatMap jc).toArray 46)) := hmk
  clear hmk
  have bl3 := below_lit w2 (.cells ((List.replicate 1 job0).flatMap jc).toArray 46)
  have jr3 : JR (w2.alloc (.cells ((List.replicate 1 job0).flatMap jc).toArray 46)) w2.heap.size (List.replicate 1 job0) := heap_alloc_new w2 _
  obtain ⟨W3, hW3⟩ : ∃ W3, W3 = w2.alloc (.cells ((List.replicate 1 job0).flatMap jc).toArray 46) := ⟨_, rfl⟩
  rw [← hW3] at hmk2 bl3 jr3
  obtain ⟨g, hg⟩ : ∃ g, g = w2.heap.size := ⟨_, rfl⟩
  have lt2 : w.heap.size < w2.heap.size := (Array.getElem?_eq_some_iff.1 row2.out).1
  have hs2 := B2.size
  rw [← hg] at hmk2 jr3 lt2 hs2
  have row3 := hid (show W3.heap[w.heap.size]? = some (.cells #[.string s.user, .string s.acct, .string s.qos, .string s.part, .int .i64 s.nodes, .int .i64 s.cores, .int .i64 s.lim, .slice s.da s.dn s.dc] 34 (0, 0)) by rw [bl3.block _ (by omega)]; exact row2.out)
  have B3 := bnext B2 bl3
  have x1 : X1 W3 g 1 id s now D 0 (List.replicate 1 job0) := ⟨jr3, List.length_replicate, fun i hi => absurd hi (Nat.not_lt_zero i), fun i j h1 h2 => absurd h2 (Nat.not_lt_zero j)⟩
  have x1' := hid x1
  have glt := jr3.lt
  clear bl3 jr3 row2 hb2 x1 hg
  replace hW3 := hid hW3
  have hbx := hid (fun (wr : World) (hk : Kp (fun i => i = g) W3 wr) => (show wr.heap[w.heap.size]? = some (.cells #[.string s.user, .string s.acct, .string s.qos, .string s.part, .int .i64 s.nodes, .int .i64 s.cores, .int .i64 s.lim, .slice s.da s.dn s.dc] 34 (0, 0)) by rw [hk.block _ (by omega) (by omega)]; exact row3.out))
  have hBx := hid (fun (wr : World) (hk : Kp (fun i => i = g) W3 wr) => (show Below w.heap.size w wr from B3.trans (hk.below (fun i hi => by omega) (by omega))))
  go_wp2_with fail
  go_loopw [45] (fun i wr => ∃ (kk : Nat) (M : List Job), kk ≤ 1 ∧ i = .int .i64 (kk : Int) ∧ Hid (X1 wr g 1 id s now D kk M) ∧ Hid (Kp (fun i => i = g) W3 wr)) (fun i _ => 1 - (intOf i).toNat)
  case atStart => exact ⟨0, _, Nat.zero_le _, rfl, x1', hid (Kp.refl _ _)⟩
  case round =>
    obtain ⟨kk, M, hkk, rfl, hx, hK⟩ := hrel
    by_cases hlt : kk < 1
    · have row4 := hbx.out wr hK.out
      have B4 := hBx.out wr hK.out
      have hMl := hx.out.len
      have lt4 : w.heap.size < wr.heap.size := (Array.getElem?_eq_some_iff.1 row4).1
      have gl4 := hx.out.row.lt
      have q0 := row_cell row4 0 (.string s.user) rfl
      have q1 := row_cell row4 1 (.string s.acct) rfl
      have q2 := row_cell row4 2 (.string s.qos) rfl
      have q3 := row_cell row4 3 (.string s.part) rfl
      have q4 := row_cell row4 4 (.int .i64 s.nodes) rfl
      have q5 := row_cell row4 5 (.int .i64 s.cores) rfl
      have q6 := row_cell row4 6 (.int .i64 s.lim) rfl
      have q7 := row_cell row4 7 (.slice s.da s.dn s.dc) rfl
      replace row4 := hid row4
      replace hMl := hid hMl
      have kM4 := hkM.out kk wr B4
      go_wp2_with fail
      refine kM4.mono ?_
      rintro e w5 ⟨x, y, rfl, hy, ho, hb5⟩
      have hp := hx.out.put hlt hb5 hy ho
      have hth : w5.there g (kk * 17) 17 := (hx.out.row.below hb5).there (by rw [hMl.out]; exact hlt)
      obtain ⟨J, hJ⟩ : ∃ J, J = (mkJ (id + ((kk : Nat) : Int)) s now).re x y := ⟨_, rfl⟩
      rw [← hJ] at hp ⊢
      replace hJ := hid hJ
      obtain ⟨hp1, hp2⟩ := hp
      have K5 : Kp (fun i => i = g) W3 (w5.setCells g (kk * 17) (jc J)) := (hK.out.then hb5).trans hp2
      obtain ⟨C, hC⟩ : ∃ C, C = (jc J).toArray := ⟨_, rfl⟩
      have hp1' : X1 (w5.setCells g (kk * 17) C.toList) g 1 id s now D (kk + 1) (M.set kk J) := by rw [hC]; exact hp1
      have K5' : Kp (fun i => i = g) W3 (w5.setCells g (kk * 17) C.toList) := by rw [hC]; exact K5
      have hCa : C.all (·.oneCell') = true := by rw [hC]; exact jc_all J
      have hCs : C.size = 17 := by rw [hC]; rfl
      rw [← hC]
      clear hp1 hp2 K5
      replace hC := hid hC
      replace hp1' := hid hp1'
      replace K5' := hid K5'
      replace ho := hid ho
      have hth' : w5.there g (kk * 17) C.size := by rw [hCs]; exact hth
      have hCi : (Tryz.prog.info? 46).map (·.size) = some C.size := by rw [hCs]; exact info43s
      clear hth
      replace hCs := hid hCs
      go_wp2_with (refine wpList_store_mid rfl 46 (.tmp 56) (.tmp 55) rfl g (kk * 17) C rfl rfl hth' hCi hCa ?_)
      go_wp2_with fail
      go_roundw
      case rel => exact ⟨kk + 1, M.set kk J, by omega, by go_num, hp1', K5'⟩
      case measure => simp [intOf]; omega
    · have hke : kk = 1 := by omega
      have hx1 := hx.out
      rw [hke] at hx1
      have hx2 := hid (hx1.all L)
      clear hx1
      clear hx
      replace hke := hid hke
      obtain ⟨wo, hwo⟩ : ∃ wo, wo = wr := ⟨_, rfl⟩
      subst hwo
      have dk : decide (((kk : Nat) : Int) < 1) = false := decide_eq_false (by omega)
      go_wp2_with fail
      go_loopw [60] (fun i wr => ∃ (j : Nat) (M : List Job), j ≤ k ∧ i = .int .i64 (j : Int) ∧ Hid (X2 wr g 1 L id s now D j M) ∧ Hid (Kp (fun i => i = g) W3 wr)) (fun i _ => k - (intOf i).toNat)
      case atStart => exact ⟨0, _, Nat.zero_le _, rfl, hx2, hK⟩
      case round =>
        obtain ⟨j, M2, hj, rfl, hy, hK2⟩ := hrel
        by_cases hlt2 : j < k
        · have B6 := hBx.out wr hK2.out
          have hMl := hy.out.len
          have gl6 := hy.out.row.lt
          obtain ⟨b, o, rfl⟩ := hat.out.place (by rw [hLk.out]; omega)
          have e0 := stay B6 (hat.out.one (i := j) (by rw [hLk.out]; exact hlt2))
          have hjn : j < 1 := by omega
          have hjM : j < M2.length := by rw [hMl]; exact hjn
          have z1 := hy.out.row.jat.cell hjM 1 (by omega)
          have z2 := hy.out.row.jat.cell hjM 2 (by omega)
          rw [Nat.zero_add] at z1 z2
          have f1 : wr.frozen? ⟨g, j * 17 + 1, none⟩ = false := row_free hy.out.row _
          have f2 : wr.frozen? ⟨g, j * 17 + 2, none⟩ = false := row_free hy.out.row _
          obtain ⟨M3, h3, k3⟩ := hy.out.put hjn
          have K7 := hid (hK2.out.trans k3)
          replace h3 := hid h3
          replace z1 : wr.cell? ⟨g, j * 17 + 1, none⟩ = some (.int .i64 (jobAt M2 j).arr) := z1
          replace z2 : wr.cell? ⟨g, j * 17 + 2, none⟩ = some (.int .i64 (jobAt M2 j).idx) := z2
          generalize (jobAt M2 j).arr = A at *
          generalize (jobAt M2 j).idx = I at *
          generalize itAt L j = V at *
          clear k3 hjM
          replace hMl := hid hMl
          go_wp2_with fail
          go_roundw
          case rel => exact ⟨j + 1, M3, by omega, by go_num, h3, K7⟩
          case measure => simp [intOf]; omega
        · have hje : j = k := by omega
          have hdone := hid (hT.out wr g M2 ((show X2 wr g 1 L id s now D L.length M2 by rw [show L.length = j from hLk.out.trans hje.symm]; exact hy.out).done hcn2.out.symm (by omega)))
          have B9 := hBx.out wr hK2.out
          have dj : decide (((j : Nat) : Int) < ((k : Nat) : Int)) = false := decide_eq_false (by omega)
          replace hje := hid hje
          go_wp2
          go_ret2
          exact ⟨hdone.out, B9⟩
end Go.Proofs.YtomdghodbkhkaaaGreatDoor

namespace Go.Proofs.YtomdghodbkhkaaaGreatDoor
open Go.RowKit
set_option linter.unusedVariables false
set_option linter.unusedSimpArgs false


set_option maxRecDepth 100000 in
set_option maxHeartbeats 4000000 in
theorem ex_ok_m (id : Int) (a : Option Addr) (k c : Nat) (L : List Int) (s : Spc) (now : Int) (D : List Dp) (w : World) (hn : L.length = k) (hl : k ≤ 4611686018427387904) (hat : IAt w a L) (hD : D.length = s.dn) (hsl : s.dn * 16 ≤ 140737488355328) (hda : DAt w s.da D)
    (hid1 : 1 ≤ id) (hid2 : id ≤ 9223372036854775807) (hk0 : 0 < k) (hLB : listB L = true) (hk1 : 1 < k) (hmb : rightB (mkJ 1 s now) = true) (hov : ¬ 1073741824 - (cntE L : Int) + 1 < id) (h32 : k ≤ 32) :
    Calls Tryz.prog 13 #[.int .i64 id, .slice a k c, .agg (sc s).toArray, .int .i64 now] w fun e w' => ExTold w' w.heap.size L id s now D e ∧ Below w.heap.size w w' := by
  have B0 : Below w.heap.size w (w.alloc (.cells #[.string s.user, .string s.acct, .string s.qos, .string s.part, .int .i64 s.nodes, .int .i64 s.cores, .int .i64 s.lim, .slice s.da s.dn s.dc] 34)) := below_lit w _
  have hrow : (w.alloc (.cells #[.string s.user, .string s.acct, .string s.qos, .string s.part, .int .i64 s.nodes, .int .i64 s.cores, .int .i64 s.lim, .slice s.da s.dn s.dc] 34)).heap[w.heap.size]? = some (.cells #[.string s.user, .string s.acct, .string s.qos, .string s.part, .int .i64 s.nodes, .int .i64 s.cores, .int .i64 s.lim, .slice s.da s.dn s.dc] 34 (0, 0)) := heap_alloc_new w _
  have hlt0 := (Array.getElem?_eq_some_iff.1 hrow).1
  have kM := fun w' hb => may_any s now D w' hD hsl (hda.below (w' := w') hb)
  change ∀ w', _ → Calls Tryz.prog 30 #[.agg #[.string s.user, .string s.acct, .string s.qos, .string s.part, .int .i64 s.nodes, .int .i64 s.cores, .int .i64 s.lim, .slice s.da s.dn s.dc], .int .i64 now] w' _ at kM
  change Calls Tryz.prog 13 #[.int .i64 id, .slice a k c, .agg #[.string s.user, .string s.acct, .string s.qos, .string s.part, .int .i64 s.nodes, .int .i64 s.cores, .int .i64 s.lim, .slice s.da s.dn s.dc], .int .i64 now] w _
  have d1 : decide (id < 1) = false := decide_eq_false (by omega)
  have d2 : decide ((0 : Int) < (k : Int)) = true := decide_eq_true (by omega)
  have kL := list_any a k c L (w.alloc (.cells #[.string s.user, .string s.acct, .string s.qos, .string s.part, .int .i64 s.nodes, .int .i64 s.cores, .int .i64 s.lim, .slice s.da s.dn s.dc] 34)) hn hl (hat.below B0)
  rw [hLB] at kL
  have hcn : cntE L = k := by unfold cntE; rw [if_neg (by omega), hn]
  have hE : exE L id s now = 0 := by unfold exE; rw [if_neg (by rintro (h | h | h); omega; rw [hLB] at h; cases h.2; rw [hmb] at h; cases h), if_neg hov]
  have hT : ∀ W g M, ExM W w.heap.size g L id s now D M → ExTold W w.heap.size L id s now D (.returned (.tuple #[.slice (some ⟨g, 0, none⟩) k k, .int .i64 0])) := fun W g M h => .inr ⟨hE, g, M, by rw [hcn], h⟩
  rw [hcn] at hov
  generalize ExTold = T at *
  have d3 : decide (1073741824 - (k : Int) + 1 < id) = false := decide_eq_false (by omega)
  have d4 : decide (1073741824 < id) = false := decide_eq_false (by omega)
  have hidn : id + (k : Int) ≤ 1073741825 := by omega
  have hkn : k ≤ k := by omega
  have m1 : (1 : Int) < (k : Int) := by omega
  have hkM := fun kk w' hb => make_any (id + ((kk : Nat) : Int)) s now D w' hD hsl (hda.below (w' := w') hb)
  change ∀ (kk : Nat) w', _ → Calls Tryz.prog 31 #[.int .i64 (id + ((kk : Nat) : Int)), .agg #[.string s.user, .string s.acct, .string s.qos, .string s.part, .int .i64 s.nodes, .int .i64 s.cores, .int .i64 s.lim, .slice s.da s.dn s.dc], .int .i64 now] w' _ at hkM
  have hLk := hid hn
  replace hkM := hid hkM
  replace hE := hid hE
  replace hT := hid hT
  have hR := hid hmb
  have hcn2 := hid hcn
  clear hcn
  clear hmb
  replace hrow := hid hrow
  replace hat := hid hat
  replace hda := hid hda
  replace hD := hid hD
  replace hn := hid hn
  replace kM := hid kM
  go_enter Tryz.func13, Tryz.ntmps13
  go_wp2_with fail
  refine kL.mono ?_
  rintro e w1 ⟨rfl, hb1⟩
  have B1 := bnext B0 hb1
  have row1 : w1.heap[w.heap.size]? = some (.cells #[.string s.user, .string s.acct, .string s.qos, .string s.part, .int .i64 s.nodes, .int .i64 s.cores, .int .i64 s.lim, .slice s.da s.dn s.dc] 34 (0, 0)) := by rw [hb1.block _ hlt0]; exact hrow.out
  have lt1 : w.heap.size < w1.heap.size := Nat.lt_of_lt_of_le hlt0 hb1.size
  have y0 := row_cell row1 0 (.string s.user) rfl
  have y1 := row_cell row1 1 (.string s.acct) rfl
  have y2 := row_cell row1 2 (.string s.qos) rfl
  have y3 := row_cell row1 3 (.string s.part) rfl
  have y4 := row_cell row1 4 (.int .i64 s.nodes) rfl
  have y5 := row_cell row1 5 (.int .i64 s.cores) rfl
  have y6 := row_cell row1 6 (.int .i64 s.lim) rfl
  have y7 := row_cell row1 7 (.slice s.da s.dn s.dc) rfl
  replace row1 := hid row1
  go_wp2_with fail
  have kM1 := kM.out w1 B1
  rw [hR.out] at kM1
  refine kM1.mono ?_
  rintro e w2 ⟨rfl, hb2⟩
  have B2 := bnext B1 hb2
  have row2 := hid (show w2.heap[w.heap.size]? = some (.cells #[.string s.user, .string s.acct, .string s.qos, .string s.part, .int .i64 s.nodes, .int .i64 s.cores, .int .i64 s.lim, .slice s.da s.dn s.dc] 34 (0, 0)) by rw [hb2.block _ lt1]; exact row1.out)
  have hmk := make_jobs k (by omega) w2
  have hmk2 : (Instr.makeSlice 38 (.int .i64 (k : Int)) (.int .i64 (k : Int))).run Tryz.prog w2 = .ok (.slice (some ⟨w2.heap.size, 0, none⟩) k k) (w2.alloc (.cells ((List.replicate k job0).flatMap jc).toArray 46)) := hmk
  clear hmk
  have bl3 := below_lit w2 (.cells ((List.replicate k job0).flatMap jc).toArray 46)
  have jr3 : JR (w2.alloc (.cells ((List.replicate k job0).flatMap jc).toArray 46)) w2.heap.size (List.replicate k job0) := heap_alloc_new w2 _
  obtain ⟨W3, hW3⟩ : ∃ W3, W3 = w2.alloc (.cells ((List.replicate k job0).flatMap jc).toArray 46) := ⟨_, rfl⟩
  rw [← hW3] at hmk2 bl3 jr3
  obtain ⟨g, hg⟩ : ∃ g, g = w2.heap.size := ⟨_, rfl⟩
  have lt2 : w.heap.size < w2.heap.size := (Array.getElem?_eq_some_iff.1 row2.out).1
  have hs2 := B2.size
  rw [← hg] at hmk2 jr3 lt2 hs2
  have row3 := hid (show W3.heap[w.heap.size]? = some (.cells #[.string s.user, .string s.acct, .string s.qos, .string s.part, .int .i64 s.nodes, .int .i64 s.cores, .int .i64 s.lim, .slice s.da s.dn s.dc] 34 (0, 0)) by rw [bl3.block _ (by omega)]; exact row2.out)
  have B3 := bnext B2 bl3
  have x1 : X1 W3 g k id s now D 0 (List.replicate k job0) := ⟨jr3, List.length_replicate, fun i hi => absurd hi (Nat.not_lt_zero i), fun i j h1 h2 => absurd h2 (Nat.not_lt_zero j)⟩
  have x1' := hid x1
  have glt := jr3.lt
  clear bl3 jr3 row2 hb2 x1 hg
  replace hW3 := hid hW3
  have hbx := hid (fun (wr : World) (hk : Kp (fun i => i = g) W3 wr) => (show wr.heap[w.heap.size]? = some (.cells #[.string s.user, .string s.acct, .string s.qos, .string s.part, .int .i64 s.nodes, .int .i64 s.cores, .int .i64 s.lim, .slice s.da s.dn s.dc] 34 (0, 0)) by rw [hk.block _ (by omega) (by omega)]; exact row3.out))
  have hBx := hid (fun (wr : World) (hk : Kp (fun i => i = g) W3 wr) => (show Below w.heap.size w wr from B3.trans (hk.below (fun i hi => by omega) (by omega))))
  go_wp2_with fail
  go_loopw [45] (fun i wr => ∃ (kk : Nat) (M : List Job), kk ≤ k ∧ i = .int .i64 (kk : Int) ∧ Hid (X1 wr g k id s now D kk M) ∧ Hid (Kp (fun i => i = g) W3 wr)) (fun i _ => k - (intOf i).toNat)
  case atStart => exact ⟨0, _, Nat.zero_le _, rfl, x1', hid (Kp.refl _ _)⟩
  case round =>
    obtain ⟨kk, M, hkk, rfl, hx, hK⟩ := hrel
    by_cases hlt : kk < k
    · have row4 := hbx.out wr hK.out
      have B4 := hBx.out wr hK.out
      have hMl := hx.out.len
      have lt4 : w.heap.size < wr.heap.size := (Array.getElem?_eq_some_iff.1 row4).1
      have gl4 := hx.out.row.lt
      have q0 := row_cell row4 0 (.string s.user) rfl
      have q1 := row_cell row4 1 (.string s.acct) rfl
      have q2 := row_cell row4 2 (.string s.qos) rfl
      have q3 := row_cell row4 3 (.string s.part) rfl
      have q4 := row_cell row4 4 (.int .i64 s.nodes) rfl
      have q5 := row_cell row4 5 (.int .i64 s.cores) rfl
      have q6 := row_cell row4 6 (.int .i64 s.lim) rfl
      have q7 := row_cell row4 7 (.slice s.da s.dn s.dc) rfl
      replace row4 := hid row4
      replace hMl := hid hMl
      have kM4 := hkM.out kk wr B4
      go_wp2_with fail
      refine kM4.mono ?_
      rintro e w5 ⟨x, y, rfl, hy, ho, hb5⟩
      have hp := hx.out.put hlt hb5 hy ho
      have hth : w5.there g (kk * 17) 17 := (hx.out.row.below hb5).there (by rw [hMl.out]; exact hlt)
      obtain ⟨J, hJ⟩ : ∃ J, J = (mkJ (id + ((kk : Nat) : Int)) s now).re x y := ⟨_, rfl⟩
      rw [← hJ] at hp ⊢
      replace hJ := hid hJ
      obtain ⟨hp1, hp2⟩ := hp
      have K5 : Kp (fun i => i = g) W3 (w5.setCells g (kk * 17) (jc J)) := (hK.out.then hb5).trans hp2
      obtain ⟨C, hC⟩ : ∃ C, C = (jc J).toArray := ⟨_, rfl⟩
      have hp1' : X1 (w5.setCells g (kk * 17) C.toList) g k id s now D (kk + 1) (M.set kk J) := by rw [hC]; exact hp1
      have K5' : Kp (fun i => i = g) W3 (w5.setCells g (kk * 17) C.toList) := by rw [hC]; exact K5
      have hCa : C.all (·.oneCell') = true := by rw [hC]; exact jc_all J
      have hCs : C.size = 17 := by rw [hC]; rfl
      rw [← hC]
      clear hp1 hp2 K5
      replace hC := hid hC
      replace hp1' := hid hp1'
      replace K5' := hid K5'
      replace ho := hid ho
      have hth' : w5.there g (kk * 17) C.size := by rw [hCs]; exact hth
      have hCi : (Tryz.prog.info? 46).map (·.size) = some C.size := by rw [hCs]; exact info43s
      clear hth
      replace hCs := hid hCs
      go_wp2_with (refine wpList_store_mid rfl 46 (.tmp 56) (.tmp 55) rfl g (kk * 17) C rfl rfl hth' hCi hCa ?_)
      go_wp2_with fail
      go_roundw
      case rel => exact ⟨kk + 1, M.set kk J, by omega, by go_num, hp1', K5'⟩
      case measure => simp [intOf]; omega
    · have hke : kk = k := by omega
      have hx1 := hx.out
      rw [hke] at hx1
      have hx2 := hid (hx1.all L)
      clear hx1
      clear hx
      replace hke := hid hke
      obtain ⟨wo, hwo⟩ : ∃ wo, wo = wr := ⟨_, rfl⟩
      subst hwo
      have dk : decide (((kk : Nat) : Int) < (k : Int)) = false := decide_eq_false (by omega)
      go_wp2_with fail
      go_loopw [60] (fun i wr => ∃ (j : Nat) (M : List Job), j ≤ k ∧ i = .int .i64 (j : Int) ∧ Hid (X2 wr g k L id s now D j M) ∧ Hid (Kp (fun i => i = g) W3 wr)) (fun i _ => k - (intOf i).toNat)
      case atStart => exact ⟨0, _, Nat.zero_le _, rfl, hx2, hK⟩
      case round =>
        obtain ⟨j, M2, hj, rfl, hy, hK2⟩ := hrel
        by_cases hlt2 : j < k
        · have B6 := hBx.out wr hK2.out
          have hMl := hy.out.len
          have gl6 := hy.out.row.lt
          obtain ⟨b, o, rfl⟩ := hat.out.place (by rw [hLk.out]; omega)
          have e0 := stay B6 (hat.out.one (i := j) (by rw [hLk.out]; exact hlt2))
          have hjn : j < k := by omega
          have hjM : j < M2.length := by rw [hMl]; exact hjn
          have z1 := hy.out.row.jat.cell hjM 1 (by omega)
          have z2 := hy.out.row.jat.cell hjM 2 (by omega)
          rw [Nat.zero_add] at z1 z2
          have f1 : wr.frozen? ⟨g, j * 17 + 1, none⟩ = false := row_free hy.out.row _
          have f2 : wr.frozen? ⟨g, j * 17 + 2, none⟩ = false := row_free hy.out.row _
          obtain ⟨M3, h3, k3⟩ := hy.out.put hjn
          have K7 := hid (hK2.out.trans k3)
          replace h3 := hid h3
          replace z1 : wr.cell? ⟨g, j * 17 + 1, none⟩ = some (.int .i64 (jobAt M2 j).arr) := z1
          replace z2 : wr.cell? ⟨g, j * 17 + 2, none⟩ = some (.int .i64 (jobAt M2 j).idx) := z2
          generalize (jobAt M2 j).arr = A at *
          generalize (jobAt M2 j).idx = I at *
          generalize itAt L j = V at *
          clear k3 hjM
          replace hMl := hid hMl
          go_wp2_with fail
          go_roundw
          case rel => exact ⟨j + 1, M3, by omega, by go_num, h3, K7⟩
          case measure => simp [intOf]; omega
        · have hje : j = k := by omega
          have hdone := hid (hT.out wr g M2 ((show X2 wr g k L id s now D L.length M2 by rw [show L.length = j from hLk.out.trans hje.symm]; exact hy.out).done hcn2.out.symm (by omega)))
          have B9 := hBx.out wr hK2.out
          have dj : decide (((j : Nat) : Int) < ((k : Nat) : Int)) = false := decide_eq_false (by omega)
          replace hje := hid hje
          go_wp2
          go_ret2
          exact ⟨hdone.out, B9⟩
end Go.Proofs.YtomdghodbkhkaaaGreatDoor
