/- Expand: its walk. -/
import Derived.Test.YtomdghodbkhkaaaDoorExp1
namespace Go.Proofs.YtomdghodbkhkaaaDoor
open Go.RowKit
set_option linter.unusedVariables false
set_option linter.unusedSimpArgs false

theorem make_jobs (n : Nat) (hn : n ≤ 1000) (w : World) : (Instr.makeSlice 36 (.int .i64 (n : Int)) (.int .i64 (n : Int))).run Tryd.prog w = .ok (.slice (some ⟨w.heap.size, 0, none⟩) n n) (w.alloc (.cells ((List.replicate n job0).flatMap jc).toArray 43)) := by
  obtain ⟨i0, hi0, hz0, hz1, hz2⟩ := info_parts info53
  have h := run_make (P := Tryd.prog) w 36 43 i0 _ Tryd.underlying36 hi0 hz0 .i64 .i64 (n : Int) (n : Int) (by omega) (by omega) (by rw [hz2]; omega) (by omega)
  rw [hz1, Int.toNat_natCast] at h
  rw [← made_jobs]
  exact h

set_option maxRecDepth 100000 in
set_option maxHeartbeats 4000000 in
theorem ex_low (id : Int) (a : Option Addr) (k c : Nat) (L : List Int) (s : Spc) (now : Int) (D : List Dp) (w : World) (hn : L.length = k) (hl : k ≤ 4611686018427387904) (hat : IAt w a L) (hD : D.length = s.dn) (hsl : s.dn * 16 ≤ 140737488355328) (hda : DAt w s.da D)
    (hid1 : id < 1) :
    Calls Tryd.prog 9 #[.int .i64 id, .slice a k c, .agg (sc s).toArray, .int .i64 now] w fun e w' => ExTold w' w.heap.size L id s now D e ∧ Below w.heap.size w w' := by
  have hE : exE L id s now = 2 := by unfold exE; rw [if_pos (.inl hid1)]
  have hT : ∀ W, ExTold W w.heap.size L id s now D (.returned (.tuple #[.slice none 0 0, .int .i64 2])) := fun W => .inl (by rw [hE]; exact ⟨by decide, rfl⟩)
  generalize ExTold = T at *
  replace hE := hid hE
  replace hT := hid hT
  change Calls Tryd.prog 9 #[.int .i64 id, .slice a k c, .agg #[.string s.user, .string s.acct, .string s.qos, .string s.part, .int .i64 s.nodes, .int .i64 s.cores, .int .i64 s.lim, .slice s.da s.dn s.dc], .int .i64 now] w _
  have d1 : decide (id < 1) = true := decide_eq_true hid1
  replace hn := hid hn
  replace hat := hid hat
  replace hda := hid hda
  replace hD := hid hD
  go_enter Tryd.func9, Tryd.ntmps9
  go_wp2
  go_ret2
  exact ⟨hT.out _, below_lit _ _⟩

set_option maxRecDepth 100000 in
set_option maxHeartbeats 4000000 in
theorem ex_list (id : Int) (a : Option Addr) (k c : Nat) (L : List Int) (s : Spc) (now : Int) (D : List Dp) (w : World) (hn : L.length = k) (hl : k ≤ 4611686018427387904) (hat : IAt w a L) (hD : D.length = s.dn) (hsl : s.dn * 16 ≤ 140737488355328) (hda : DAt w s.da D)
    (hid1 : 1 ≤ id) (hid2 : id ≤ 9223372036854775807) (hk0 : 0 < k) (hLB : listB L = false) :
    Calls Tryd.prog 9 #[.int .i64 id, .slice a k c, .agg (sc s).toArray, .int .i64 now] w fun e w' => ExTold w' w.heap.size L id s now D e ∧ Below w.heap.size w w' := by
  have hE : exE L id s now = 2 := by unfold exE; rw [if_pos (.inr (.inl ⟨by omega, hLB⟩))]
  have hT : ∀ W, ExTold W w.heap.size L id s now D (.returned (.tuple #[.slice none 0 0, .int .i64 2])) := fun W => .inl (by rw [hE]; exact ⟨by decide, rfl⟩)
  have B0 := below_lit w (.cells #[.string s.user, .string s.acct, .string s.qos, .string s.part, .int .i64 s.nodes, .int .i64 s.cores, .int .i64 s.lim, .slice s.da s.dn s.dc] 33)
  have kL := list_any a k c L _ hn hl (hat.below B0)
  rw [hLB] at kL
  generalize ExTold = T at *
  replace hE := hid hE
  replace hT := hid hT
  replace hLB := hid hLB
  change Calls Tryd.prog 9 #[.int .i64 id, .slice a k c, .agg #[.string s.user, .string s.acct, .string s.qos, .string s.part, .int .i64 s.nodes, .int .i64 s.cores, .int .i64 s.lim, .slice s.da s.dn s.dc], .int .i64 now] w _
  have d1 : decide (id < 1) = false := decide_eq_false (by omega)
  have d2 : decide ((0 : Int) < (k : Int)) = true := decide_eq_true (by omega)
  replace hn := hid hn
  replace hat := hid hat
  replace hda := hid hda
  replace hD := hid hD
  go_enter Tryd.func9, Tryd.ntmps9
  go_wp2_with fail
  refine kL.mono ?_
  rintro e w1 ⟨rfl, hb1⟩
  go_wp2
  go_ret2
  exact ⟨hT.out _, bnext B0 hb1⟩

set_option maxRecDepth 100000 in
set_option maxHeartbeats 4000000 in
theorem ex_bad_z (id : Int) (a : Option Addr) (k c : Nat) (L : List Int) (s : Spc) (now : Int) (D : List Dp) (w : World) (hn : L.length = k) (hl : k ≤ 4611686018427387904) (hat : IAt w a L) (hD : D.length = s.dn) (hsl : s.dn * 16 ≤ 140737488355328) (hda : DAt w s.da D)
    (hid1 : 1 ≤ id) (hid2 : id ≤ 9223372036854775807) (hk0 : k = 0) (hmb : rightB (mkJ 1 s now) = false) :
    Calls Tryd.prog 9 #[.int .i64 id, .slice a k c, .agg (sc s).toArray, .int .i64 now] w fun e w' => ExTold w' w.heap.size L id s now D e ∧ Below w.heap.size w w' := by
  have B0 : Below w.heap.size w (w.alloc (.cells #[.string s.user, .string s.acct, .string s.qos, .string s.part, .int .i64 s.nodes, .int .i64 s.cores, .int .i64 s.lim, .slice s.da s.dn s.dc] 33)) := below_lit w _
  have hrow : (w.alloc (.cells #[.string s.user, .string s.acct, .string s.qos, .string s.part, .int .i64 s.nodes, .int .i64 s.cores, .int .i64 s.lim, .slice s.da s.dn s.dc] 33)).heap[w.heap.size]? = some (.cells #[.string s.user, .string s.acct, .string s.qos, .string s.part, .int .i64 s.nodes, .int .i64 s.cores, .int .i64 s.lim, .slice s.da s.dn s.dc] 33 (0, 0)) := heap_alloc_new w _
  have hlt0 := (Array.getElem?_eq_some_iff.1 hrow).1
  have kM := fun w' hb => may_any s now D w' hD hsl (hda.below (w' := w') hb)
  change ∀ w', _ → Calls Tryd.prog 19 #[.agg #[.string s.user, .string s.acct, .string s.qos, .string s.part, .int .i64 s.nodes, .int .i64 s.cores, .int .i64 s.lim, .slice s.da s.dn s.dc], .int .i64 now] w' _ at kM
  change Calls Tryd.prog 9 #[.int .i64 id, .slice a k c, .agg #[.string s.user, .string s.acct, .string s.qos, .string s.part, .int .i64 s.nodes, .int .i64 s.cores, .int .i64 s.lim, .slice s.da s.dn s.dc], .int .i64 now] w _
  have d1 : decide (id < 1) = false := decide_eq_false (by omega)
  subst hk0
  have d2 : decide ((0 : Int) < ((0 : Nat) : Int)) = false := rfl
  have hE : exE L id s now = 2 := by unfold exE; rw [if_pos (.inr (.inr hmb))]
  have hT : ∀ W, ExTold W w.heap.size L id s now D (.returned (.tuple #[.slice none 0 0, .int .i64 2])) := fun W => .inl (by rw [hE]; exact ⟨by decide, rfl⟩)
  generalize ExTold = T at *
  replace hE := hid hE
  replace hT := hid hT
  have hR := hid hmb
  clear hmb
  replace hrow := hid hrow
  replace hat := hid hat
  replace hda := hid hda
  replace hD := hid hD
  replace hn := hid hn
  replace kM := hid kM
  go_enter Tryd.func9, Tryd.ntmps9
  go_wp2_with fail
  have kM1 := kM.out (w.alloc (.cells #[.string s.user, .string s.acct, .string s.qos, .string s.part, .int .i64 s.nodes, .int .i64 s.cores, .int .i64 s.lim, .slice s.da s.dn s.dc] 33)) B0
  rw [hR.out] at kM1
  refine kM1.mono ?_
  rintro e w2 ⟨rfl, hb2⟩
  have B2 := bnext B0 hb2
  have row2 := hid (show w2.heap[w.heap.size]? = some (.cells #[.string s.user, .string s.acct, .string s.qos, .string s.part, .int .i64 s.nodes, .int .i64 s.cores, .int .i64 s.lim, .slice s.da s.dn s.dc] 33 (0, 0)) by rw [hb2.block _ hlt0]; exact hrow.out)
  go_wp2
  go_ret2
  exact ⟨hT.out _, B2⟩

set_option maxRecDepth 100000 in
set_option maxHeartbeats 4000000 in
theorem ex_bad_p (id : Int) (a : Option Addr) (k c : Nat) (L : List Int) (s : Spc) (now : Int) (D : List Dp) (w : World) (hn : L.length = k) (hl : k ≤ 4611686018427387904) (hat : IAt w a L) (hD : D.length = s.dn) (hsl : s.dn * 16 ≤ 140737488355328) (hda : DAt w s.da D)
    (hid1 : 1 ≤ id) (hid2 : id ≤ 9223372036854775807) (hk0 : 0 < k) (hLB : listB L = true) (hmb : rightB (mkJ 1 s now) = false) :
    Calls Tryd.prog 9 #[.int .i64 id, .slice a k c, .agg (sc s).toArray, .int .i64 now] w fun e w' => ExTold w' w.heap.size L id s now D e ∧ Below w.heap.size w w' := by
  have B0 : Below w.heap.size w (w.alloc (.cells #[.string s.user, .string s.acct, .string s.qos, .string s.part, .int .i64 s.nodes, .int .i64 s.cores, .int .i64 s.lim, .slice s.da s.dn s.dc] 33)) := below_lit w _
  have hrow : (w.alloc (.cells #[.string s.user, .string s.acct, .string s.qos, .string s.part, .int .i64 s.nodes, .int .i64 s.cores, .int .i64 s.lim, .slice s.da s.dn s.dc] 33)).heap[w.heap.size]? = some (.cells #[.string s.user, .string s.acct, .string s.qos, .string s.part, .int .i64 s.nodes, .int .i64 s.cores, .int .i64 s.lim, .slice s.da s.dn s.dc] 33 (0, 0)) := heap_alloc_new w _
  have hlt0 := (Array.getElem?_eq_some_iff.1 hrow).1
  have kM := fun w' hb => may_any s now D w' hD hsl (hda.below (w' := w') hb)
  change ∀ w', _ → Calls Tryd.prog 19 #[.agg #[.string s.user, .string s.acct, .string s.qos, .string s.part, .int .i64 s.nodes, .int .i64 s.cores, .int .i64 s.lim, .slice s.da s.dn s.dc], .int .i64 now] w' _ at kM
  change Calls Tryd.prog 9 #[.int .i64 id, .slice a k c, .agg #[.string s.user, .string s.acct, .string s.qos, .string s.part, .int .i64 s.nodes, .int .i64 s.cores, .int .i64 s.lim, .slice s.da s.dn s.dc], .int .i64 now] w _
  have d1 : decide (id < 1) = false := decide_eq_false (by omega)
  have d2 : decide ((0 : Int) < (k : Int)) = true := decide_eq_true (by omega)
  have kL := list_any a k c L (w.alloc (.cells #[.string s.user, .string s.acct, .string s.qos, .string s.part, .int .i64 s.nodes, .int .i64 s.cores, .int .i64 s.lim, .slice s.da s.dn s.dc] 33)) hn hl (hat.below B0)
  rw [hLB] at kL
  have hE : exE L id s now = 2 := by unfold exE; rw [if_pos (.inr (.inr hmb))]
  have hT : ∀ W, ExTold W w.heap.size L id s now D (.returned (.tuple #[.slice none 0 0, .int .i64 2])) := fun W => .inl (by rw [hE]; exact ⟨by decide, rfl⟩)
  generalize ExTold = T at *
  replace hE := hid hE
  replace hT := hid hT
  have hR := hid hmb
  clear hmb
  replace hrow := hid hrow
  replace hat := hid hat
  replace hda := hid hda
  replace hD := hid hD
  replace hn := hid hn
  replace kM := hid kM
  go_enter Tryd.func9, Tryd.ntmps9
  go_wp2_with fail
  refine kL.mono ?_
  rintro e w1 ⟨rfl, hb1⟩
  have B1 := bnext B0 hb1
  have row1 : w1.heap[w.heap.size]? = some (.cells #[.string s.user, .string s.acct, .string s.qos, .string s.part, .int .i64 s.nodes, .int .i64 s.cores, .int .i64 s.lim, .slice s.da s.dn s.dc] 33 (0, 0)) := by rw [hb1.block _ hlt0]; exact hrow.out
  have lt1 : w.heap.size < w1.heap.size := Nat.lt_of_lt_of_le hlt0 hb1.size
  have y0 := row_cell row1 0 (.string s.user) rfl
  have y1 := row_cell row1 1 (.string s.acct) rfl
  have y2 := row_cell row1 2 (.string s.qos) rfl
  have y3 := row_cell row1 3 (.string s.part) rfl
  have y4 := row_cell row1 4 (.int .i64 s.nodes) rfl
  have y5 := row_cell row1 5 (.int .i64 s.cores) rfl
  have y6 := row_cell row1 6 (.int .i64 s.lim) rfl
  have y7 := row_cell row1 7 (.slice s.da s.dn s.dc) rfl
  replace row1 := hid row1
  go_wp2_with fail
  have kM1 := kM.out w1 B1
  rw [hR.out] at kM1
  refine kM1.mono ?_
  rintro e w2 ⟨rfl, hb2⟩
  have B2 := bnext B1 hb2
  have row2 := hid (show w2.heap[w.heap.size]? = some (.cells #[.string s.user, .string s.acct, .string s.qos, .string s.part, .int .i64 s.nodes, .int .i64 s.cores, .int .i64 s.lim, .slice s.da s.dn s.dc] 33 (0, 0)) by rw [hb2.block _ lt1]; exact row1.out)
  go_wp2
  go_ret2
  exact ⟨hT.out _, B2⟩
end Go.Proofs.YtomdghodbkhkaaaDoor
