/- SessionOnce: its head: four clients are made. -/
import Derived.Test.YthjggjjocfbjcaaOnceH
import Derived.Test.YthjggjjocfbjcaaOnceTake
import Derived.Test.YthjggjjocfbjcaaNumC
import Derived.Test.YthjggjjocfbjcaaPick
import Derived.Test.YthjggjjocfbjcaaArg
import Derived.Test.YthjggjjocfbjcaaOnceSw
import Derived.Deep.CutBlock
namespace Go.Proofs.Ythjggjjocfbjcaa
open Go.RowKit

attribute [local go_sem ↓] Go.wp_at_zero Go.wp_at_succ

theorem info3z : (Try.prog.info? 3).map (fun i => (i.zero, i.size, i.bytes)) = some (some (.int .i64 0), 1, 8) := by kernel_rfl

theorem ints_made {w : World} {base g n : Nat} (h : w.ownsRow base 3 1 (.slice (some ⟨g, 0, none⟩) n n) n (madeCells (Value.cells (.int .i64 0)) (n * 1)).toList) : w.heap[g]? = some (.cells ((zerosN n).map (Value.int .i64)).toArray 3 (0, 0)) := by
  obtain ⟨h1, h2⟩ := h
  rcases h2 with ⟨h3, _⟩ | ⟨g', cap, cur, hv, _, hh, _, _, hs, ht⟩
  · cases h3
  · simp at hv
    obtain ⟨rfl, rfl⟩ := hv
    rw [hh]
    have e : cur.toList = (zerosN n).map (Value.int .i64) := by
      rw [List.take_of_length_le (by simp; omega)] at ht
      rw [ht]
      simp only [madeCells, Value.cells, Array.toList_map, Array.toList_range, Nat.mul_one, zerosN]
      apply List.ext_getElem
      · simp
      · intro i h1 h2
        simp [Nat.mod_one]
    congr 2
    rw [← e]

/-- 'make([]int, 250)', its run told. -/
theorem zeros_ints (w : World) : ∃ w2, (Instr.makeSlice 58 (.int .i64 250) (.int .i64 250)).run Try.prog w = .ok (.slice (some ⟨w.heap.size, 0, none⟩) 250 250) w2 ∧ IR w2 w.heap.size zeros ∧ Below w.heap.size w w2 := by
  obtain ⟨i0, hi, hz0, hz1, hz2⟩ := info_parts info3z
  obtain ⟨w2, hrun, r1, r2⟩ := run_make_full (P := Try.prog) w w.heap.size 58 3 i0 _ 1 Try.underlying58 hi hz0 hz1 .i64 .i64 250 (by rw [hz2]; omega) (by unfold maxLen; omega) (Nat.le_refl _)
  have key : ∀ m : Nat, (zerosN m).length = m := fun m => by unfold zerosN; simp
  exact ⟨w2, hrun, ⟨key 250, ints_made r1⟩, (Below.refl _ _).grown r2 (Nat.le_refl _) (fun k hk => by cases hk)⟩

set_option maxRecDepth 100000 in
set_option maxHeartbeats 4000000 in
theorem once_any (a : Option Addr) (n c : Nat) (w : World) (ha : IAt w a n) (hn : n ≤ 4611686018427387904) :
    Calls Try.prog 6 #[.slice a n c] w fun e w' => e = .returned (.bool true) ∧ Below w.heap.size w w' := by
  replace ha := hid ha
  go_enter Try.func6, Try.ntmps6
  go_wp2_with fail
  have h00 : HI w.heap.size w.heap.size 0 (w.alloc (.cells (warrG nilV (fun _ => ⟨0, 0, 0, none, 0, []⟩) nilV nilV (fun _ => nilV) 0) 65)) (fun _ => ⟨0, 0, 0, none, 0, []⟩) (fun _ => nilV) (fun _ => 0) :=
    ⟨Nat.le_refl _, heap_alloc_new w _, fun i hi => by omega, fun i hi => by omega, fun i i' hi => by omega⟩
  have hb00 : Below w.heap.size w (w.alloc (.cells (warrG nilV (fun _ => ⟨0, 0, 0, none, 0, []⟩) nilV nilV (fun _ => nilV) 0) 65)) := below_lit w _
  obtain ⟨g, hg⟩ : ∃ g, g = w.heap.size := ⟨_, rfl⟩
  obtain ⟨W0, hW0⟩ : ∃ W0, W0 = w.alloc (.cells (warrG nilV (fun _ => ⟨0, 0, 0, none, 0, []⟩) nilV nilV (fun _ => nilV) 0) 65) := ⟨_, rfl⟩
  rw [← hW0] at h00 hb00
  have hW0' := hW0
  simp only [warrG, AV.wv, nilV, List.length_nil] at hW0'
  rw [← hW0', ← hg]
  replace hW0 := hid hW0
  replace hW0' := hid hW0'
  rw [← hg] at h00
  replace h00 := hid h00
  replace hg := hid hg
  go_loopw [4] (fun i wr => ∃ j : Nat, j ≤ 4 ∧ i = .int .i64 (j : Int) ∧ Hid (Below w.heap.size w wr) ∧ Hid (∃ A rv rb, HI g g j wr A rv rb)) (fun i _ => 4 - (intOf i).toNat)
  case atStart => exact ⟨0, by omega, rfl, hid hb00, hid ⟨_, _, _, h00.out⟩⟩
  case round =>
    obtain ⟨j, hj, rfl, hB, hH⟩ := hrel
    by_cases hlt : j < 4
    · have d1 : decide ((j : Int) < 4) = true := decide_eq_true (by omega)
      obtain ⟨A, rv, rb, hI⟩ := hH.out
      have kb := begin_any ((j : Int) + 1) wr
      rw [show beginP ((j : Int) + 1) = (((j : Int) + 1, 1, 0, []), 0) by unfold beginP numP; rw [decide_eq_true (by omega), decide_eq_true (by unfold MM; omega)]; rfl] at kb
      replace hI := hid hI
      go_wp2_with fail
      refine kb.mono ?_
      rintro e w2 ⟨rfl, b2⟩
      dsimp only
      have bl := below_lit w2 (.cells #[.int .i64 ((j : Int) + 1), .int .i64 1, .int .i64 0, .slice none 0 0] 41)
      have P2 := ABlk.new w2 (.int .i64 ((j : Int) + 1)) (.int .i64 1) (.int .i64 0) (.slice none 0 0)
      have hI2 := (hI.out.below b2).below bl
      replace bl := hid bl
      replace P2 := hid P2
      replace hI2 := hid hI2
      go_upto_region 8 with fail
      obtain ⟨W3, hW3⟩ : ∃ W3, W3 = w2.alloc (.cells #[.int .i64 ((j : Int) + 1), .int .i64 1, .int .i64 0, .slice none 0 0] 41) := ⟨_, rfl⟩
      rw [← hW3] at hI2 P2 bl ⊢
      have B3 := bnext (bnext hB.out b2) bl.out
      replace hW3 := hid hW3
      obtain ⟨g5, hg5⟩ : ∃ g5, g5 = w2.heap.size := ⟨_, rfl⟩
      rw [← hg5] at P2 ⊢
      replace hg5 := hid hg5
      have p0 := P2.out.cell0
      have p1 := P2.out.cell1
      have p2 := P2.out.cell2
      have p3 := P2.out.cell3
      have q0 := hI2.out.blk.a0 j hlt
      have q1 := hI2.out.blk.a1 j hlt
      have q2 := hI2.out.blk.a2 j hlt
      have q3 : W3.cell? ⟨g, 1 + j * 4 + 3, none⟩ = some (.slice (A j).a (A j).ks.length (A j).c) := hI2.out.blk.a3 j hlt
      have q4 := hI2.out.blk.free
      have hI4 := (hI2.out.setA hlt (firstA j)).below (drew_below _)
      have j0 : (0 : Int) ≤ (j : Int) := by omega
      have j4 : (j : Int) < 4 := by omega
      have hk4 : Kp (fun i => i = g) W3 ((((W3.setCell ⟨g, 1 + j * 4, none⟩ (.int .i64 ((j : Int) + 1))).setCell ⟨g, 1 + j * 4 + 1, none⟩ (.int .i64 1)).setCell ⟨g, 1 + j * 4 + 2, none⟩ (.int .i64 0)).setCell ⟨g, 1 + j * 4 + 3, none⟩ (.slice none 0 0)).drew :=
        (((((Kp.refl (fun i => i = g) W3).setCell (p := ⟨g, 1 + j * 4, none⟩) rfl _).setCell (p := ⟨g, 1 + j * 4 + 1, none⟩) rfl _).setCell (p := ⟨g, 1 + j * 4 + 2, none⟩) rfl _).setCell (p := ⟨g, 1 + j * 4 + 3, none⟩) rfl _).then (drew_below _)
      go_region
      obtain ⟨W4, hW4⟩ : ∃ W4, W4 = ((((W3.setCell ⟨g, 1 + j * 4, none⟩ (.int .i64 ((j : Int) + 1))).setCell ⟨g, 1 + j * 4 + 1, none⟩ (.int .i64 1)).setCell ⟨g, 1 + j * 4 + 2, none⟩ (.int .i64 0)).setCell ⟨g, 1 + j * 4 + 3, none⟩ (.slice none 0 0)).drew := ⟨_, rfl⟩
      rw [← hW4] at hk4 ⊢
      have hI4' : HI g g j W4 (upd A j (firstA j)) rv rb := by rw [hW4]; exact hI4
      have B4 : Below w.heap.size w W4 := B3.trans (hk4.below (fun k e => by rw [e, hg.out]; exact Nat.le_refl _) B3.size)
      clear hI4 p0 p1 p2 p3 q0 q1 q2 q3 q4
      replace hW4 := hid hW4
      replace hk4 := hid hk4
      obtain ⟨w5, m5, r5, b5⟩ := zeros_ints W4.drew
      obtain ⟨w6, m6, r6, b6⟩ := zeros_ints w5
      have hb5 : Below W4.heap.size W4 w5 := bnext (drew_below W4) b5
      have hb6 : Below W4.heap.size W4 w6 := bnext hb5 b6
      have hI5 := hI4'.below hb5
      have hI6 := hI4'.below hb6
      have t0 := hI6.blk.d j hlt
      have t1 := hI6.blk.f j hlt
      have t2 := hI6.blk.free
      have t3 := hI5.blk.d j hlt
      have t4 := hI5.blk.f j hlt
      have t5 := hI5.blk.free
      obtain ⟨w7, m7, r7, b7⟩ := zeros_ints (w5.setCell ⟨g, 19 + j, none⟩ (.slice (some ⟨W4.heap.size, 0, none⟩) 250 250))
      have h7d := hI5.blk.setD j hlt (.slice (some ⟨W4.heap.size, 0, none⟩) 250 250)
      have h7 : WG w7 g _ _ := h7d.kp (Kp.of_below (S := fun _ => False) b7) (fun h => h)
      have t6 := h7.f j hlt
      have t7 := h7.free
      have hx5 : W4.heap.size < w5.heap.size := r5.lt
      have gle : g ≤ W4.heap.size := by rw [hg.out]; exact B4.size
      have e7 : (w5.setCell ⟨g, 19 + j, none⟩ (.slice (some ⟨W4.heap.size, 0, none⟩) 250 250)).heap.size = w5.heap.size := by simp
      rw [e7] at r7 m7
      have gne : ∀ {b : Nat} {W : World}, IR W b zeros → W.heap.size = W.heap.size → ∀ {A' : Nat → AV} {rv' : Nat → Value}, WG W g A' rv' → ¬ b = g := fun h _ _ _ h' => ty_ne h.2 h' (by omega)
      have i5 : IR w6 W4.heap.size zeros := IR.kp r5 (Kp.of_below (S := fun _ => False) b6) (fun h => h)
      have kA : ∀ v, Kp (fun i => i = g) W4 ((w6.setCell ⟨g, 19 + j, none⟩ v)) := fun v => (Kp.of_below hb6).trans (kp_set w6 g (19 + j) v)
      have kB : ∀ v u, Kp (fun i => i = g) W4 ((w6.setCell ⟨g, 19 + j, none⟩ v).setCell ⟨g, 23 + j, none⟩ u) := fun v u => (kA v).trans (kp_set _ g (23 + j) u)
      have kC : ∀ u, Kp (fun i => i = g) W4 (w7.setCell ⟨g, 23 + j, none⟩ u) := fun u => ((((Kp.of_below hb5).trans (kp_set w5 g (19 + j) _)).then b7).trans (kp_set w7 g (23 + j) u))
      have n5 : ¬ W4.heap.size = g := gne i5 rfl hI6.blk
      have n6 : ¬ w5.heap.size = g := gne r6 rfl hI6.blk
      have keep6 : ∀ {b : Nat} v u, IR w6 b zeros → ¬ b = g → IR ((w6.setCell ⟨g, 19 + j, none⟩ v).setCell ⟨g, 23 + j, none⟩ u) b zeros := fun v u h hb => (h.kp (kp_set w6 g (19 + j) v) hb).kp (kp_set _ g (23 + j) u) hb
      have i7 : IR w7 W4.heap.size zeros := (IR.kp r5 (kp_set w5 g (19 + j) (.slice (some ⟨W4.heap.size, 0, none⟩) 250 250)) n5).kp (Kp.of_below (S := fun _ => False) b7) (fun h => h)
      have F1 := hI4'.next hlt (upd_same _ _ _) (kB (rowV W4.heap.size) (rowV w5.heap.size)) W4.heap.size w5.heap.size (Nat.le_refl _) (Nat.le_of_lt hx5) (Nat.ne_of_lt hx5) gle (keep6 _ _ i5 n5) (keep6 _ _ r6 n6) ((hI6.blk.setD j hlt _).setF j hlt _)
      have F2 := hI4'.next hlt (upd_same _ _ _) (kB (rowV w5.heap.size) (rowV W4.heap.size)) w5.heap.size W4.heap.size (Nat.le_of_lt hx5) (Nat.le_refl _) (Nat.ne_of_gt hx5) gle (keep6 _ _ r6 n6) (keep6 _ _ i5 n5) ((hI6.blk.setD j hlt _).setF j hlt _)
      have F3 := hI4'.next hlt (upd_same _ _ _) (kC (rowV w5.heap.size)) W4.heap.size w5.heap.size (Nat.le_refl _) (Nat.le_of_lt hx5) (Nat.ne_of_lt hx5) gle (i7.kp (kp_set w7 g (23 + j) _) n5) (r7.kp (kp_set w7 g (23 + j) _) n6) (h7.setF j hlt _)
      have C1 := B4.trans ((kB (rowV W4.heap.size) (rowV w5.heap.size)).below (fun k e => by rw [e, hg.out]; exact Nat.le_refl _) B4.size)
      have C2 := B4.trans ((kB (rowV w5.heap.size) (rowV W4.heap.size)).below (fun k e => by rw [e, hg.out]; exact Nat.le_refl _) B4.size)
      have C3 := B4.trans ((kC (rowV w5.heap.size)).below (fun k e => by rw [e, hg.out]; exact Nat.le_refl _) B4.size)
      replace F1 := hid F1; replace F2 := hid F2; replace F3 := hid F3
      replace C1 := hid C1; replace C2 := hid C2; replace C3 := hid C3
      replace h7 := hid h7; replace h7d := hid h7d
      replace r5 := hid r5; replace r6 := hid r6; replace r7 := hid r7; replace i5 := hid i5; replace i7 := hid i7
      replace hI4' := hid hI4'
      clear kA kB kC keep6 gne e7
      replace hI6 := hid hI6
      replace hI5 := hid hI5
      go_upto_region 9 with fail
      go_region_law (fail)
      · go_wp2_with fail
        go_roundw
        case rel => exact ⟨j + 1, by omega, by go_num, C1, hid ⟨_, _, _, F1.out⟩⟩
        case measure => simp [intOf]; omega
      · go_wp2_with fail
        go_roundw
        case rel => exact ⟨j + 1, by omega, by go_num, C3, hid ⟨_, _, _, F3.out⟩⟩
        case measure => simp [intOf]; omega
      · go_wp2_with fail
        go_roundw
        case rel => exact ⟨j + 1, by omega, by go_num, C2, hid ⟨_, _, _, F2.out⟩⟩
        case measure => simp [intOf]; omega
    · obtain rfl : j = 4 := by omega
      have d1 : decide ((4 : Int) < 4) = false := rfl
      obtain ⟨A, rv, rb, hI⟩ := hH.out
      have hOI : OI g 0 wr := ⟨_, _, _, _, _, _, _, _, _, _, _, hI.os, op_begin⟩
      replace hI := hid hI
      replace hOI := hid hOI
      go_wp2_with fail
      go_loopw [7] (fun i wr => ∃ j : Nat, j ≤ n ∧ j ≤ 200 ∧ i = .int .i64 (j : Int) ∧ Hid (Below w.heap.size w wr) ∧ Hid (OI g j wr)) (fun i _ => 200 - (intOf i).toNat)
      case atStart => exact ⟨0, by omega, by omega, rfl, hB, hOI⟩
      case round =>
        clear hOI hI hB hH
        obtain ⟨j, hj, hj2, rfl, hB, hO⟩ := hrel
        by_cases hlt : j < n ∧ j < 200
        · obtain ⟨hl1, hl2⟩ := hlt
          have d1 : decide ((j : Int) < (n : Int)) = true := by simpa using hl1
          have d2 : decide ((j : Int) < 200) = true := by simp; omega
          obtain ⟨ob, oo, rfl, hoc⟩ := (ha.out.below hB.out) (by omega)
          obtain ⟨z, hz⟩ := hoc j hl1
          replace hoc := hid hoc
          go_wp2_with fail
          refine (pick_any z 1000003 _ (by omega) (by omega)).mono ?_
          rintro e w6 ⟨⟨p, hp, rfl⟩, rfl⟩
          dsimp only
          obtain ⟨k, hk, hke⟩ : ∃ k : Nat, k < 4 ∧ (p : Int) / 7 % 4 = (k : Int) := ⟨p / 7 % 4, by omega, by omega⟩
          go_upto_region 15 with fail
          rw [hke]
          replace hke := hid hke
          obtain ⟨r, hr, hrs⟩ : ∃ r : Int, (p : Int) % 7 = r ∧ (r = 0 ∨ r = 1 ∨ r = 2 ∨ r = 3 ∨ r = 4 ∨ r = 5 ∨ r = 6) := ⟨_, rfl, by omega⟩
          go_upto_block 4 with fail
          rw [hr]
          replace hr := hid hr
          refine once_sw hg hl2 hk (by omega) hB hO hrs (hid ?_) (hid ?_)
          · intro d10 d11 d12 d13 d14 d15 d16 d17 d70 d71 d72 d73 d74 d75 d76 d77 d78 d79 d80 d81 d82 d83 d84 d85 d86 d87 d88 d89 d90 d91 d92 d93 d94 d95 d96 d97 d98 d99 d100 d101 d102 d103 d104 d105 d106 d107 d108 d109 d110 d111 d112 d113 d114 d115 d116 d117 d118 d119 d120 d121 d122 d123 d124 d125 d126 d127 d128 d129 d130 d131 d132 d133 d134 d135 d136 d137 d138 d139 d140 d141 d142 d143 d144 d145 d146 d147 d148 d149 d150 d151 d152 d153 d154 d155 d156 d157 d158 d159 d160 d161 d162 d163 d164 d165 d166 d167 d168 d169 d170 d171 d172 d173 d174 d175 d176 d177 d178 d179 d180 d181 d182 d183 d184 d185 d186 d187 d188 d189 d190 d191 d192 d193 d194 d195 d196 d197 d198 d199 d200 d201 d202 d203 d204 d205 d206 d207 d208 d209 d210 d211 d212 d213 d214 d215 d216 d217 d218 d219 d220 d221 d222 d223 d224 d225 d226 d227 d228 d229 d230 d231 d232 d233 d234 d235 d236 d237 d238 d239 d240 d241 d242 d243 d244 d245 wx hB2 hO2
            obtain ⟨la, lc, L, A, tv, T, bv, B, rb, R, ctr, hS, hP⟩ := hO2.out
            have q0 := hS.blk.l
            have kR := right_any la L.length lc 0 L wx rfl hS.cl (by have := hP.right.len; rw [List.length_map] at this; omega)
            rw [(right_iff _).2 hP.right] at kR
            replace hS := hid hS
            go_wp2_with fail
            refine kR.mono ?_
            rintro e w8 ⟨rfl, b8⟩
            dsimp only
            have hS8 := hS.out.below b8
            have B8 := hid (bnext hB2.out b8)
            have hA := (hP.ci k hk).ask
            have kA := righta_any (A k).id (A k).next (A k).acked (A k).a (A k).ks.length (A k).c 0 (A k).ks w8 rfl (hS8.wt k hk) (by have := ks_short hA; omega) (by have := hA.next; have e : (A k).flat.2.1 = (A k).next := rfl; rw [e] at this; unfold MM at this; omega)
            rw [show rightA ((A k).id, (A k).next, (A k).acked, (A k).ks.map KV.flat) = true from (askR_iff _).2 hA] at kA
            have y0 := hS8.blk.a0 k hk
            have y1 := hS8.blk.a1 k hk
            have y2 := hS8.blk.a2 k hk
            have y3 : w8.cell? ⟨g, 1 + k * 4 + 3, none⟩ = some (.slice (A k).a (A k).ks.length (A k).c) := hS8.blk.a3 k hk
            have k0 : (0 : Int) ≤ (k : Int) := by omega
            have k4 : (k : Int) < 4 := by omega
            replace hS8 := hid hS8
            replace hA := hid hA
            replace hP := hid hP
            go_wp2_with fail
            refine kA.mono ?_
            rintro e w9 ⟨rfl, b9⟩
            dsimp only
            have B9 := hid (bnext B8.out b9)
            have O9 := hid (show OI g (j + 1) w9 from ⟨_, _, _, _, _, _, _, _, _, _, _, hS8.out.below b9, hP.out⟩)
            clear y0 y1 y2 y3 q0 b9 b8 kA kR
            go_wp2_with fail
            go_roundw
            case rel => exact ⟨j + 1, by omega, by omega, by go_num, B9, O9⟩
            case measure => simp [intOf]; omega
          · intro d10 d11 d12 d13 d14 d15 d16 d17 d70 d71 d72 d73 d74 d75 d76 d77 d78 d79 d80 d81 d82 d83 d84 d85 d86 d87 d88 d89 d90 d91 d92 d93 d94 d95 d96 d97 d98 d99 d100 d101 d102 d103 d104 d105 d106 d107 d108 d109 d110 d111 d112 d113 d114 d115 d116 d117 d118 d119 d120 d121 d122 d123 d124 d125 d126 d127 d128 d129 d130 d131 d132 d133 d134 d135 d136 d137 d138 d139 d140 d141 d142 d143 d144 d145 d146 d147 d148 d149 d150 d151 d152 d153 d154 d155 d156 d157 d158 d159 d160 d161 d162 d163 d164 d165 d166 d167 d168 d169 d170 d171 d172 d173 d174 d175 d176 d177 d178 d179 d180 d181 d182 d183 d184 d185 d186 d187 d188 d189 d190 d191 d192 d193 d194 d195 d196 d197 d198 d199 d200 d201 d202 d203 d204 d205 d206 d207 d208 d209 d210 d211 d212 d213 d214 d215 d216 d217 d218 d219 d220 d221 d222 d223 d224 d225 d226 d227 d228 d229 d230 d231 d232 d233 d234 d235 d236 d237 d238 d239 d240 d241 d242 d243 d244 d245 wx hB2 hO2
            go_wp2_with fail
            go_roundw
            case rel => exact ⟨j + 1, by omega, by omega, by go_num, hB2, hO2⟩
            case measure => simp [intOf]; omega
        · replace hlt := hid hlt
          by_cases h1 : j < n
          · have h2 : j = 200 := by have := hlt.out; omega
            subst h2
            have d1 : decide ((200 : Int) < (n : Int)) = true := decide_eq_true (by omega)
            go_wp2_with fail
            refine (awake_any _).mono ?_
            rintro e w9 ⟨rfl, b9⟩
            go_wp2
            go_ret
            exact ⟨rfl, bnext hB.out b9⟩
          · have h2 : n = j := by omega
            subst h2
            go_wp2_with fail
            refine (awake_any _).mono ?_
            rintro e w9 ⟨rfl, b9⟩
            go_wp2
            go_ret
            exact ⟨rfl, bnext hB.out b9⟩

end Go.Proofs.Ythjggjjocfbjcaa
