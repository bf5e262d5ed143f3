/- ArrayIds: the jobs of an array, one by one. -/
import Derived.Test.YtomdghodbkhkaaaDoorAwk
import Derived.Test.YtomdghodbkhkaaaDoorIdsW
import Derived.Test.YtomdghodbkhkaaaDoorSm
namespace Go.Proofs.YtomdghodbkhkaaaDoor
open Go.RowKit
set_option linter.unusedVariables false
set_option linter.unusedSimpArgs false


set_option maxRecDepth 100000 in
set_option maxHeartbeats 4000000 in
theorem ids_p (id : Int) (a : Option Addr) (k c : Nat) (L : List Int) (s : Spc) (now : Int) (D : List Dp) (w : World) (hn : L.length = k) (hl : k ≤ 4611686018427387904) (hat : IAt w a L) (hD : D.length = s.dn) (hsl : s.dn * 16 ≤ 140737488355328) (hda : DAt w s.da D) (hid2 : id ≤ 9223372036854775807) (ht : Tb w) (hk0 : 0 < k) (hk32 : k ≤ 32) (hE : exE L id s now = 0) :
    Calls Tryd.prog 4 #[.agg (kc id s now).toArray, .slice a k c] w fun e w' => e = .returned (.bool true) ∧ Below w.heap.size w w' := by
  have hcn : cntE L = k := by unfold cntE; split <;> omega
  have hid3 : 1 ≤ id ∧ id ≤ 1073741824 := by
    unfold exE at hE
    split at hE
    · exact absurd hE (by decide)
    · rename_i h1
      split at hE
      · exact absurd hE (by decide)
      · rename_i h2
        have : ¬ id < 1 := fun h => h1 (.inl h)
        omega
  obtain ⟨hid1, hidm⟩ := hid3
  have B0 := below_lit w (.cells #[.int .i64 id, .string s.user, .string s.acct, .string s.qos, .string s.part, .int .i64 s.nodes, .int .i64 s.cores, .int .i64 s.lim, .slice s.da s.dn s.dc, .int .i64 now] 35)
  have hrow : (w.alloc (.cells #[.int .i64 id, .string s.user, .string s.acct, .string s.qos, .string s.part, .int .i64 s.nodes, .int .i64 s.cores, .int .i64 s.lim, .slice s.da s.dn s.dc, .int .i64 now] 35)).heap[w.heap.size]? = some (.cells #[.int .i64 id, .string s.user, .string s.acct, .string s.qos, .string s.part, .int .i64 s.nodes, .int .i64 s.cores, .int .i64 s.lim, .slice s.da s.dn s.dc, .int .i64 now] 35 (0, 0)) := heap_alloc_new w _
  have hlt0 := (Array.getElem?_eq_some_iff.1 hrow).1
  obtain ⟨W0, hW0⟩ : ∃ W0, W0 = w.alloc (.cells #[.int .i64 id, .string s.user, .string s.acct, .string s.qos, .string s.part, .int .i64 s.nodes, .int .i64 s.cores, .int .i64 s.lim, .slice s.da s.dn s.dc, .int .i64 now] 35) := ⟨_, rfl⟩
  rw [← hW0] at B0 hrow hlt0
  have kX := expand_any id a k c L s now D W0 hn hl (hat.below B0) hD hsl (hda.below B0) hid2
  change Calls Tryd.prog 9 #[.int .i64 id, .slice a k c, .agg #[.string s.user, .string s.acct, .string s.qos, .string s.part, .int .i64 s.nodes, .int .i64 s.cores, .int .i64 s.lim, .slice s.da s.dn s.dc], .int .i64 now] W0 _ at kX
  change Calls Tryd.prog 4 #[.agg #[.int .i64 id, .string s.user, .string s.acct, .string s.qos, .string s.part, .int .i64 s.nodes, .int .i64 s.cores, .int .i64 s.lim, .slice s.da s.dn s.dc, .int .i64 now], .slice a k c] w _
  have q0 := row_cell hrow 0 (.int .i64 id) rfl
  have q1 := row_cell hrow 1 (.string s.user) rfl
  have q2 := row_cell hrow 2 (.string s.acct) rfl
  have q3 := row_cell hrow 3 (.string s.qos) rfl
  have q4 := row_cell hrow 4 (.string s.part) rfl
  have q5 := row_cell hrow 5 (.int .i64 s.nodes) rfl
  have q6 := row_cell hrow 6 (.int .i64 s.cores) rfl
  have q7 := row_cell hrow 7 (.int .i64 s.lim) rfl
  have q8 := row_cell hrow 8 (.slice s.da s.dn s.dc) rfl
  have q9 := row_cell hrow 9 (.int .i64 now) rfl
  rw [hW0] at q0 q1 q2 q3 q4 q5 q6 q7 q8 q9
  replace hrow := hid hrow
  replace hat := hid hat
  replace hda := hid hda
  replace hD := hid hD
  replace hn := hid hn
  replace ht := hid ht
  replace hE := hid hE
  replace hcn := hid hcn

  go_enter Tryd.func4, Tryd.ntmps4
  go_wp2_with fail
  rw [← hW0]
  clear q0 q1 q2 q3 q4 q5 q6 q7 q8 q9
  replace hW0 := hid hW0
  refine kX.mono ?_
  rintro e w2 ⟨⟨h1, rfl⟩ | ⟨_, g, M, rfl, hM⟩, hb2⟩
  · exact absurd hE.out h1
  · rw [hcn.out]
    have hMl : M.length = k := hM.len.trans hcn.out
    have B2 := bnext B0 hb2
    have row2 := hid (show w2.heap[w.heap.size]? = some (.cells #[.int .i64 id, .string s.user, .string s.acct, .string s.qos, .string s.part, .int .i64 s.nodes, .int .i64 s.cores, .int .i64 s.lim, .slice s.da s.dn s.dc, .int .i64 now] 35 (0, 0)) by rw [hb2.block _ hlt0]; exact hrow.out)
    have lt2 : w.heap.size < w2.heap.size := Nat.lt_of_lt_of_le hlt0 hb2.size
    have hJ := hid hM.job
    have hJr := hid hM.row
    clear hM hb2
    replace hMl := hid hMl
    have hm : Hid (∀ w', (Builtin.max_ #[3, 3] 3 #[.int .i64 1, .int .i64 (k : Int)]).run Tryd.prog w' = .ok (.int .i64 (k : Int)) w') := hid (fun w' => by
      rcases Nat.lt_or_ge 1 k with h | h
      · have m1 : (1 : Int) < (k : Int) := by omega
        have m2 : max (1 : Int) (k : Int) = (k : Int) := by omega
        simp [Builtin.max_, Builtin.max2, m2]
        omega
      · obtain rfl : k = 1 := by omega
        simp [Builtin.max_, Builtin.max2])
    have hm2 := hm.out
    go_wp2_with fail
    go_loopw [36] (fun i wr => ∃ j : Nat, j ≤ k ∧ i = .int .i64 (j : Int) ∧ Hid (Below w2.heap.size w2 wr)) (fun i _ => k - (intOf i).toNat)
    case atStart => exact ⟨0, Nat.zero_le _, rfl, hid (Below.refl _ _)⟩
    case round =>
      obtain ⟨j, hj, rfl, hb⟩ := hrel
      by_cases hlt : j < k
      · have hjM : j < M.length := by rw [hMl.out]; exact hlt
        obtain ⟨x, y, hx, hy, ho, hz⟩ := hJ.out j hjM
        have hcj := hid ((JAt.below hJr.out.jat hb.out).range hjM)
        obtain ⟨J, hJe⟩ : ∃ J, J = jobAt M j := ⟨_, rfl⟩
        rw [← hJe] at hcj hx
        replace hJe := hid hJe
        have hf := exJ_in (L := L) (id := id) (s := s) (now := now) (i := j) (by rw [hn.out]; exact hlt) x y
        rw [← hx] at hf
        obtain ⟨f0, f1, f2, f3, f4, f5⟩ := hf
        have rowr := hb.out.block w.heap.size lt2
        rw [row2.out] at rowr
        have gltr : g < wr.heap.size := (hJr.out.below hb.out).lt
        have ltr : w.heap.size < wr.heap.size := Nat.lt_of_lt_of_le lt2 hb.out.size
        have bl8 := below_lit wr (.cells (jc J).toArray 43)
        have row8 := heap_alloc_new wr (.cells (jc J).toArray 43)
        have lt8 : wr.heap.size < (wr.alloc (.cells (jc J).toArray 43)).heap.size := by rw [size_lit]; omega
        have v0 := row_cell row8 0 (.int .i64 (id + j)) (by rw [← f0]; rfl)
        have v1 := row_cell row8 1 (.int .i64 id) (by rw [← f1]; rfl)
        obtain ⟨V, hV⟩ : ∃ V, V = itAt L j := ⟨_, rfl⟩
        rw [← hV] at f2
        have v2 := row_cell row8 2 (.int .i64 V) (by rw [← f2]; rfl)
        obtain ⟨b, o, rfl⟩ := hat.out.place (by rw [hn.out]; omega)
        have z0 := stay (bnext B2 hb.out) (hat.out.one (i := j) (by rw [hn.out]; exact hlt))
        rw [← hV] at z0
        replace hV := hid hV
        have z8 := stay bl8 z0
        have v11 := row_cell row8 11 (.int .u8 1) (by rw [← f4]; rfl)
        have v12 := row_cell row8 12 (.int .i64 now) (by rw [← f5]; rfl)
        have hr8 := hid (job_range row8)
        rw [f3] at hr8
        have rowc8 : (wr.alloc (.cells (jc J).toArray 43)).heap[w.heap.size]? = some (.cells #[.int .i64 id, .string s.user, .string s.acct, .string s.qos, .string s.part, .int .i64 s.nodes, .int .i64 s.cores, .int .i64 s.lim, .slice s.da s.dn s.dc, .int .i64 now] 35 (0, 0)) := by rw [bl8.block _ ltr]; exact rowr
        have c0 := row_cell rowc8 0 (.int .i64 id) rfl
        have c9 := row_cell rowc8 9 (.int .i64 now) rfl
        have hrc := hid (show (wr.alloc (.cells (jc J).toArray 43)).rangeAt w.heap.size 1 (sc s) from fun r v hv => row_cell rowc8 (1 + r) v (by
          have hr : r < 8 := by
            rcases Nat.lt_or_ge r 8 with h1 | h1
            · exact h1
            · rw [List.getElem?_eq_none (by rw [sc_len]; exact h1)] at hv; cases hv
          obtain rfl | rfl | rfl | rfl | rfl | rfl | rfl | rfl : r = 0 ∨ r = 1 ∨ r = 2 ∨ r = 3 ∨ r = 4 ∨ r = 5 ∨ r = 6 ∨ r = 7 := by omega
          all_goals exact hv))
        have kS := samespec s D x y (wr.alloc (.cells (jc J).toArray 43)) hD.out (by omega) (CAt.below (CAt.below ho.dat hb.out) bl8) (CAt.below (hda.out.below (bnext B2 hb.out)) bl8)
        clear f0 f1 f2 f3 f4 f5 hx hz ho hy row8
        replace rowr := hid rowr
        replace rowc8 := hid rowc8
        have hcj2 := hcj
        rw [Nat.zero_add] at hcj2
        go_upto_region 10 with (first
          | (refine wpList_load_mid rfl 43 (.tmp 41) rfl g (j * 17) rfl (jc J) _ hcj2.out Tryd.underlying43 rfl (by kernel_rfl) ?_)
          | (refine wpList_store_row rfl 43 (.tmp 8) (.tmp 42) rfl wr.heap.size (jc J).toArray rfl rfl 43 _ (heap_alloc_new wr _) (by kernel_rfl) rfl (jc_all J) ?_; rw [alloc_setRow]))
        go_wp2_with (first
          | (refine gload_mid 19 false 62 rfl rfl rfl 33 (.tmp 63) rfl wr.heap.size 3 rfl (sc (s.re x y)) _ hr8.out Tryd.underlying33 rfl (by kernel_rfl) ?_)
          | (refine gload_mid 19 false 62 rfl rfl rfl 33 (.tmp 65) rfl w.heap.size 1 rfl (sc s) _ hrc.out Tryd.underlying33 rfl (by kernel_rfl) ?_))
        refine kS.mono ?_
        rintro e w9 ⟨rfl, hb9⟩
        have B9 := hid (hb.out.trans ((bnext bl8 hb9).mono hb.out.size))
        replace v1 := stay hb9 v1
        replace v2 := stay hb9 v2
        replace c0 := stay hb9 c0
        replace z8 := stay hb9 z8
        have lt9 : wr.heap.size < w9.heap.size := Nat.lt_of_lt_of_le lt8 hb9.size
        clear v0 v11 v12 c9 kS
        replace hb9 := hid hb9
        replace bl8 := hid bl8
        have d1 : decide ((0 : Int) < (k : Int)) = true := decide_eq_true (by omega)
        have d2 : ((k : Int) == 0) = false := by simp; omega
        have d3 : (id != id) = false := by simp
        have d4 : (V != V) = false := by simp
        go_wp2_with fail
        go_quiet (fail)
        have B10 := hid (below_drewN B9.out nq)
        generalize w9.drewN nq = W10 at *
        go_wp2_with fail
        go_roundw
        case rel => exact ⟨j + 1, by omega, by go_num, B10⟩
        case measure => simp [intOf]; omega
      · have hje : j = k := by omega
        have dj : decide (((j : Nat) : Int) < (k : Int)) = false := decide_eq_false (by omega)
        replace hje := hid hje
        have kA := awake_any wr (ht.out.below (bnext B2 hb.out))
        go_wp2_with fail
        refine kA.mono ?_
        rintro e w5 ⟨rfl, hb5⟩
        go_wp2
        go_ret
        exact ⟨rfl, bnext (bnext B2 hb.out) hb5⟩

set_option maxRecDepth 100000 in
set_option maxHeartbeats 4000000 in
theorem ids_no (id : Int) (a : Option Addr) (k c : Nat) (L : List Int) (s : Spc) (now : Int) (D : List Dp) (w : World) (hn : L.length = k) (hl : k ≤ 4611686018427387904) (hat : IAt w a L) (hD : D.length = s.dn) (hsl : s.dn * 16 ≤ 140737488355328) (hda : DAt w s.da D) (hid2 : id ≤ 9223372036854775807) (ht : Tb w) (hE : exE L id s now ≠ 0) :
    Calls Tryd.prog 4 #[.agg (kc id s now).toArray, .slice a k c] w fun e w' => e = .returned (.bool true) ∧ Below w.heap.size w w' := by
  have B0 := below_lit w (.cells #[.int .i64 id, .string s.user, .string s.acct, .string s.qos, .string s.part, .int .i64 s.nodes, .int .i64 s.cores, .int .i64 s.lim, .slice s.da s.dn s.dc, .int .i64 now] 35)
  have kX := expand_any id a k c L s now D (w.alloc (.cells #[.int .i64 id, .string s.user, .string s.acct, .string s.qos, .string s.part, .int .i64 s.nodes, .int .i64 s.cores, .int .i64 s.lim, .slice s.da s.dn s.dc, .int .i64 now] 35)) hn hl (hat.below B0) hD hsl (hda.below B0) hid2
  change Calls Tryd.prog 9 #[.int .i64 id, .slice a k c, .agg #[.string s.user, .string s.acct, .string s.qos, .string s.part, .int .i64 s.nodes, .int .i64 s.cores, .int .i64 s.lim, .slice s.da s.dn s.dc], .int .i64 now] _ _ at kX
  change Calls Tryd.prog 4 #[.agg #[.int .i64 id, .string s.user, .string s.acct, .string s.qos, .string s.part, .int .i64 s.nodes, .int .i64 s.cores, .int .i64 s.lim, .slice s.da s.dn s.dc, .int .i64 now], .slice a k c] w _
  have dE : (exE L id s now != 0) = true := by simpa using hE
  replace hat := hid hat
  replace hda := hid hda
  replace hD := hid hD
  replace hn := hid hn
  replace ht := hid ht
  replace hE := hid hE
  go_enter Tryd.func4, Tryd.ntmps4
  go_wp2_with fail
  refine kX.mono ?_
  rintro e w2 ⟨⟨h1, rfl⟩ | ⟨h1, g, M, rfl, hM⟩, hb2⟩
  · have kA := awake_any w2 (ht.out.below (bnext B0 hb2))
    generalize exE L id s now = E at *
    replace h1 := hid h1
    go_wp2_with fail
    refine kA.mono ?_
    rintro e w5 ⟨rfl, hb5⟩
    go_wp2
    go_ret
    exact ⟨rfl, bnext (bnext B0 hb2) hb5⟩
  · exact absurd h1 hE.out

theorem ids_any (id : Int) (a : Option Addr) (k c : Nat) (L : List Int) (s : Spc) (now : Int) (D : List Dp) (w : World) (hn : L.length = k) (hl : k ≤ 4611686018427387904) (hat : IAt w a L) (hD : D.length = s.dn) (hsl : s.dn * 16 ≤ 140737488355328) (hda : DAt w s.da D) (hid2 : id ≤ 9223372036854775807) (ht : Tb w) :
    Calls Tryd.prog 4 #[.agg (kc id s now).toArray, .slice a k c] w fun e w' => e = .returned (.bool true) ∧ Below w.heap.size w w' := by
  by_cases hE : exE L id s now = 0
  · rcases Nat.eq_zero_or_pos k with h0 | h0
    · exact ids_z id a k c L s now D w hn hl hat hD hsl hda hid2 ht h0 hE
    · have h32 : k ≤ 32 := by
        unfold exE at hE
        split at hE
        · exact absurd hE (by decide)
        · rename_i h1
          have h2 : listB L = true := by
            cases e : listB L
            · exact absurd (.inr (.inl ⟨by omega, e⟩)) h1
            · rfl
          have := ((listB_iff L).1 h2).2.1
          omega
      exact ids_p id a k c L s now D w hn hl hat hD hsl hda hid2 ht h0 h32 hE
  · exact ids_no id a k c L s now D w hn hl hat hD hsl hda hid2 ht hE
end Go.Proofs.YtomdghodbkhkaaaDoor
