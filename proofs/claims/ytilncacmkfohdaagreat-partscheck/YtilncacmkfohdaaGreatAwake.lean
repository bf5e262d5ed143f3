/- The chapter's examples. -/
import Derived.Test.YtilncacmkfohdaaGreatPf
namespace Go.Proofs.YtilncacmkfohdaaGreat
open Go.RowKit

abbrev tPhys : ByteArray := ⟨#[112, 104, 121, 115]⟩
abbrev tLab : ByteArray := ⟨#[108, 97, 98]⟩
abbrev tBio : ByteArray := ⟨#[98, 105, 111]⟩
abbrev tNorm : ByteArray := ⟨#[110, 111, 114, 109, 97, 108]⟩
abbrev tMain : ByteArray := ⟨#[109, 97, 105, 110]⟩
abbrev tBig : ByteArray := ⟨#[98, 105, 103]⟩
abbrev tNo : ByteArray := ⟨#[]⟩
abbrev tU : ByteArray := ⟨#[117]⟩
abbrev tX : ByteArray := ⟨#[120]⟩
def aZ : List Int := [4, 8]
def aA : List Acc := [(tPhys, tNo, -1), (tLab, tPhys, -1), (tBio, tNo, -1)]
def aQ : List Qu := [(tNorm, 0, -1, -1)]
def aM (x : Option Addr) : List (Prt × List ByteArray) := [(⟨tMain, 3, 0, 100, none, 0, 0⟩, []), (⟨tBig, 2, 0, 100, x, 1, 1⟩, [tPhys])]
def aS (p a : ByteArray) (n c l : Int) : Spc := ⟨tU, a, tNorm, p, n, c, l, none, 0, 0⟩

theorem a_right (x : Option Addr) : rcB aZ (aM x) aA aQ 1 = true := by kernel_rfl
theorem a_c1 (x : Option Addr) : chkP aZ (aM x) aA aQ 1 (aS tMain tBio 2 4 100) = 0 := by kernel_rfl
theorem a_c2 (x : Option Addr) : chkP aZ (aM x) aA aQ 1 (aS tMain tBio 2 5 100) = 150 := by kernel_rfl
theorem a_c3 (x : Option Addr) : chkP aZ (aM x) aA aQ 1 (aS tMain tBio 1 1 101) = 150 := by kernel_rfl
theorem a_c4 (x : Option Addr) : chkP aZ (aM x) aA aQ 1 (aS tBig tLab 1 8 1) = 0 := by kernel_rfl
theorem a_c5 (x : Option Addr) : chkP aZ (aM x) aA aQ 1 (aS tBig tBio 1 8 1) = 160 := by kernel_rfl
theorem a_c6 (x : Option Addr) : chkP aZ (aM x) aA aQ 1 (aS tX tBio 1 8 1) = 141 := by kernel_rfl
theorem a_c7 (x : Option Addr) : chkP aZ (aM x) aA aQ 1 (aS tMain tBio 0 1 1) = 2 := by kernel_rfl
theorem a_c8 (s : Spc) : chkP [] [] [] [] 0 s = 250 := by kernel_rfl

theorem cfr_nil (w : World) : CfR w none none none none 0 0 0 0 0 [] [] [] [] :=
  ⟨rfl, CAt.nil _ _, by omega, rfl, CAt.nil _ _, by omega, (fun p h => by cases h), (fun p h => by cases h), rfl, CAt.nil _ _, by omega, by omega, rfl, CAt.nil _ _, by omega⟩

set_option maxRecDepth 100000 in
set_option maxHeartbeats 1000000 in
theorem ex_any (w : World) : Calls Tryz.prog 16 #[] w fun e w' => ∃ ca pa aa qa x, e = .returned (.agg #[.slice ca 2 2, .slice pa 2 2, .slice aa 3 3, .slice qa 1 1, .int .u8 1]) ∧ CfR w' ca pa aa qa 2 2 3 3 1 aZ (aM x) aA aQ ∧ Below w.heap.size w w' := by
  go_enter Tryz.func16, Tryz.ntmps16
  go_wp2
  obtain ⟨c0, hc0⟩ : ∃ c0, c0 = #[Value.slice (some ⟨w.heap.size + 1, 0, none⟩) 2 2, .slice (some ⟨w.heap.size + 1 + 1 + 1 + 1 + 1, 0, none⟩) 2 2, .slice (some ⟨w.heap.size + 1 + 1, 0, none⟩) 3 3, .slice (some ⟨w.heap.size + 1 + 1 + 1, 0, none⟩) 1 1, .int .u8 1] := ⟨_, rfl⟩
  obtain ⟨c1, hc1⟩ : ∃ c1, c1 = #[Value.int .i64 4, .int .i64 8] := ⟨_, rfl⟩
  obtain ⟨c2, hc2⟩ : ∃ c2, c2 = #[Value.string tPhys, .string tNo, .int .i64 (-1), .string tLab, .string tPhys, .int .i64 (-1), .string tBio, .string tNo, .int .i64 (-1)] := ⟨_, rfl⟩
  obtain ⟨c3, hc3⟩ : ∃ c3, c3 = #[Value.string tNorm, .int .i64 0, .int .i64 (-1), .int .i64 (-1)] := ⟨_, rfl⟩
  obtain ⟨c4, hc4⟩ : ∃ c4, c4 = #[Value.string tPhys] := ⟨_, rfl⟩
  obtain ⟨c5, hc5⟩ : ∃ c5, c5 = #[Value.string tMain, .int .u32 3, .int .i64 0, .int .i64 100, .slice none 0 0, .string tBig, .int .u32 2, .int .i64 0, .int .i64 100, .slice (some ⟨w.heap.size + 1 + 1 + 1 + 1, 0, none⟩) 1 1] := ⟨_, rfl⟩
  simp only [← hc0, ← hc1, ← hc2, ← hc3, ← hc4, ← hc5]
  obtain ⟨w1, hw1⟩ : ∃ w1, w1 = w.alloc (.cells c0 28) := ⟨_, rfl⟩
  obtain ⟨w2, hw2⟩ : ∃ w2, w2 = w1.alloc (.cells c1 3) := ⟨_, rfl⟩
  obtain ⟨w3, hw3⟩ : ∃ w3, w3 = w2.alloc (.cells c2 90) := ⟨_, rfl⟩
  obtain ⟨w4, hw4⟩ : ∃ w4, w4 = w3.alloc (.cells c3 82) := ⟨_, rfl⟩
  obtain ⟨w5, hw5⟩ : ∃ w5, w5 = w4.alloc (.cells c4 9) := ⟨_, rfl⟩
  obtain ⟨w6, hw6⟩ : ∃ w6, w6 = w5.alloc (.cells c5 47) := ⟨_, rfl⟩
  simp only [← hw1, ← hw2, ← hw3, ← hw4, ← hw5, ← hw6]
  have z1 : w1.heap.size = w.heap.size + 1 := by rw [hw1, size_lit]
  have z2 : w2.heap.size = w.heap.size + 1 + 1 := by rw [hw2, size_lit, z1]
  have z3 : w3.heap.size = w.heap.size + 1 + 1 + 1 := by rw [hw3, size_lit, z2]
  have z4 : w4.heap.size = w.heap.size + 1 + 1 + 1 + 1 := by rw [hw4, size_lit, z3]
  have z5 : w5.heap.size = w.heap.size + 1 + 1 + 1 + 1 + 1 := by rw [hw5, size_lit, z4]
  have b1 : Below w.heap.size w w1 := by rw [hw1]; exact below_lit _ _
  have b2 : Below w1.heap.size w1 w2 := by rw [hw2]; exact below_lit _ _
  have b3 : Below w2.heap.size w2 w3 := by rw [hw3]; exact below_lit _ _
  have b4 : Below w3.heap.size w3 w4 := by rw [hw4]; exact below_lit _ _
  have b5 : Below w4.heap.size w4 w5 := by rw [hw5]; exact below_lit _ _
  have b6 : Below w5.heap.size w5 w6 := by rw [hw6]; exact below_lit _ _
  have d5 := bnext b5 b6
  have d4 := bnext b4 d5
  have d3 := bnext b3 d4
  have d2 := bnext b2 d3
  have d1 := bnext b1 d2
  have i1 : IAt w6 (some ⟨w.heap.size + 1, 0, none⟩) aZ := IAt.below (w := w2) (by rw [hw2, ← z1]; exact cat_lit _ _ _ _ (by rw [hc1]; rfl)) d3
  have i2 : AAt w6 (some ⟨w.heap.size + 1 + 1, 0, none⟩) aA := AAt.below (w := w3) (by rw [hw3, ← z2]; exact cat_lit _ _ _ _ (by rw [hc2]; rfl)) d4
  have i3 : QAt w6 (some ⟨w.heap.size + 1 + 1 + 1, 0, none⟩) aQ := QAt.below (w := w4) (by rw [hw4, ← z3]; exact cat_lit _ _ _ _ (by rw [hc3]; rfl)) d5
  have i4 : TAt w6 (some ⟨w.heap.size + 1 + 1 + 1 + 1, 0, none⟩) [tPhys] := TAt.below (w := w5) (by rw [hw5, ← z4]; exact cat_lit _ _ _ _ (by rw [hc4]; rfl)) b6
  have i5 : PtAt w6 (some ⟨w.heap.size + 1 + 1 + 1 + 1 + 1, 0, none⟩) ((aM (some ⟨w.heap.size + 1 + 1 + 1 + 1, 0, none⟩)).map (·.1)) := by rw [hw6, ← z5]; exact cat_lit _ _ _ _ (by rw [hc5]; rfl)
  have hg : w6.heap[w.heap.size]? = some (.cells c0 28 (0, 0)) := by
    rw [d2.block _ (by omega), hw1]; exact heap_alloc_new _ _
  refine bodyPost_ret (results_cell_row rfl _ _ w.heap.size 28 c0 (0, 0) _ rfl hg Tryz.underlying28 rfl (by rw [hc0]; kernel_rfl)) rfl ?_
  refine ⟨_, _, _, _, some ⟨w.heap.size + 1 + 1 + 1 + 1, 0, none⟩, by rw [hc0], ⟨rfl, i1, by omega, rfl, i5, by omega, ?_, ?_, rfl, i2, by omega, by omega, rfl, i3, by omega⟩, d1⟩
  · intro p hp
    simp only [aM, List.mem_cons, List.not_mem_nil, or_false] at hp
    rcases hp with rfl | rfl
    · exact ⟨rfl, TAt.nil _ _, by dsimp only; omega⟩
    · exact ⟨rfl, i4, by dsimp only; omega⟩
  · intro p hp
    simp only [aM, List.mem_cons, List.not_mem_nil, or_false] at hp
    rcases hp with rfl | rfl
    · exact ⟨3, rfl, by omega⟩
    · exact ⟨2, rfl, by omega⟩

set_option maxRecDepth 100000 in
theorem ask_any (ca pa aa qa x : Option Addr) (g : Nat) (p a : ByteArray) (n c l : Int) (w : World) (hC : CfR w ca pa aa qa 2 2 3 3 1 aZ (aM x) aA aQ)
    (v0 : w.cell? ⟨g, 0, none⟩ = some (.slice ca 2 2)) (v1 : w.cell? ⟨g, 1, none⟩ = some (.slice pa 2 2)) (v2 : w.cell? ⟨g, 2, none⟩ = some (.slice aa 3 3)) (v3 : w.cell? ⟨g, 3, none⟩ = some (.slice qa 1 1)) (v4 : w.cell? ⟨g, 4, none⟩ = some (.int .u8 1)) :
    Calls Tryz.prog 17 #[.string p, .string a, .int .i64 n, .int .i64 c, .int .i64 l, ptr g] w fun e w' => e = .returned (.int .i64 (chkP aZ (aM x) aA aQ 1 (aS p a n c l))) ∧ Below w.heap.size w w' := by
  have k := check_any ca pa aa qa 2 2 2 2 3 3 1 1 1 aZ (aM x) aA aQ (aS p a n c l) w hC
  have hlt := World.block_lt_of_cell? w _ v0
  replace hC := hid hC
  generalize chkP aZ (aM x) aA aQ 1 (aS p a n c l) = R at *
  simp only [sc, aS] at k
  go_enter Tryz.func17, Tryz.ntmps17
  go_wp2_with fail
  refine k.mono ?_
  rintro e w1 ⟨rfl, hb1⟩
  go_wp2
  go_ret
  exact ⟨rfl, hb1⟩

set_option maxRecDepth 100000 in
set_option maxHeartbeats 2000000 in
theorem awake_any (w : World) : Calls Tryz.prog 6 #[] w fun e w' => e = .returned (.bool true) ∧ Below w.heap.size w w' := by
  go_enter Tryz.func6, Tryz.ntmps6
  go_wp2_with fail
  refine (ex_any w).mono ?_
  rintro e w1 ⟨ca, pa, aa, qa, x, rfl, hC, hb1⟩
  obtain ⟨W0, hW0⟩ : ∃ W0, W0 = w1.alloc (.cells #[.slice ca 2 2, .slice pa 2 2, .slice aa 3 3, .slice qa 1 1, .int .u8 1] 28) := ⟨_, rfl⟩
  have b0 : Below w1.heap.size w1 W0 := by rw [hW0]; exact below_lit _ _
  have B := bnext hb1 b0
  have v0 : W0.cell? ⟨w1.heap.size, 0, none⟩ = some (.slice ca 2 2) := by rw [hW0]; exact lit_cell _ _ _ _ _ rfl
  have v1 : W0.cell? ⟨w1.heap.size, 1, none⟩ = some (.slice pa 2 2) := by rw [hW0]; exact lit_cell _ _ _ _ _ rfl
  have v2 : W0.cell? ⟨w1.heap.size, 2, none⟩ = some (.slice aa 3 3) := by rw [hW0]; exact lit_cell _ _ _ _ _ rfl
  have v3 : W0.cell? ⟨w1.heap.size, 3, none⟩ = some (.slice qa 1 1) := by rw [hW0]; exact lit_cell _ _ _ _ _ rfl
  have v4 : W0.cell? ⟨w1.heap.size, 4, none⟩ = some (.int .u8 1) := by rw [hW0]; exact lit_cell _ _ _ _ _ rfl
  have hlt := World.block_lt_of_cell? W0 _ v0
  have kR := prt_any ca pa aa qa 2 2 2 2 3 3 1 1 1 aZ (aM x) aA aQ W0 (hC.below b0)
  rw [a_right] at kR
  replace hC := hid (hC.below b0)
  replace hW0 := hid hW0
  go_wp2_with fail
  rw [← hW0.out]
  refine kR.mono ?_
  rintro e w2 ⟨rfl, hb2⟩
  generalize w1.heap.size = g at *
  replace v0 := stay hb2 v0
  replace v1 := stay hb2 v1
  replace v2 := stay hb2 v2
  replace v3 := stay hb2 v3
  replace v4 := stay hb2 v4
  replace hC := hid (hC.out.below hb2)
  replace B := bnext B hb2
  replace hlt := World.block_lt_of_cell? w2 _ v0
  clear hb2
  have k1 := ask_any ca pa aa qa x g tMain tBio 2 4 100 w2 hC.out v0 v1 v2 v3 v4
  rw [a_c1] at k1
  go_wp2_with fail
  refine k1.mono ?_
  clear k1
  rintro e w3 ⟨rfl, hb3⟩
  replace v0 := stay hb3 v0
  replace v1 := stay hb3 v1
  replace v2 := stay hb3 v2
  replace v3 := stay hb3 v3
  replace v4 := stay hb3 v4
  replace hC := hid (hC.out.below hb3)
  replace B := bnext B hb3
  replace hlt := World.block_lt_of_cell? w3 _ v0
  clear hb3
  have k2 := ask_any ca pa aa qa x g tMain tBio 2 5 100 w3 hC.out v0 v1 v2 v3 v4
  rw [a_c2] at k2
  go_wp2_with fail
  refine k2.mono ?_
  clear k2
  rintro e w4 ⟨rfl, hb4⟩
  replace v0 := stay hb4 v0
  replace v1 := stay hb4 v1
  replace v2 := stay hb4 v2
  replace v3 := stay hb4 v3
  replace v4 := stay hb4 v4
  replace hC := hid (hC.out.below hb4)
  replace B := bnext B hb4
  replace hlt := World.block_lt_of_cell? w4 _ v0
  clear hb4
  have k3 := ask_any ca pa aa qa x g tMain tBio 1 1 101 w4 hC.out v0 v1 v2 v3 v4
  rw [a_c3] at k3
  go_wp2_with fail
  refine k3.mono ?_
  clear k3
  rintro e w5 ⟨rfl, hb5⟩
  replace v0 := stay hb5 v0
  replace v1 := stay hb5 v1
  replace v2 := stay hb5 v2
  replace v3 := stay hb5 v3
  replace v4 := stay hb5 v4
  replace hC := hid (hC.out.below hb5)
  replace B := bnext B hb5
  replace hlt := World.block_lt_of_cell? w5 _ v0
  clear hb5
  have k4 := ask_any ca pa aa qa x g tBig tLab 1 8 1 w5 hC.out v0 v1 v2 v3 v4
  rw [a_c4] at k4
  go_wp2_with fail
  refine k4.mono ?_
  clear k4
  rintro e w6 ⟨rfl, hb6⟩
  replace v0 := stay hb6 v0
  replace v1 := stay hb6 v1
  replace v2 := stay hb6 v2
  replace v3 := stay hb6 v3
  replace v4 := stay hb6 v4
  replace hC := hid (hC.out.below hb6)
  replace B := bnext B hb6
  replace hlt := World.block_lt_of_cell? w6 _ v0
  clear hb6
  have k5 := ask_any ca pa aa qa x g tBig tBio 1 8 1 w6 hC.out v0 v1 v2 v3 v4
  rw [a_c5] at k5
  go_wp2_with fail
  refine k5.mono ?_
  clear k5
  rintro e w7 ⟨rfl, hb7⟩
  replace v0 := stay hb7 v0
  replace v1 := stay hb7 v1
  replace v2 := stay hb7 v2
  replace v3 := stay hb7 v3
  replace v4 := stay hb7 v4
  replace hC := hid (hC.out.below hb7)
  replace B := bnext B hb7
  replace hlt := World.block_lt_of_cell? w7 _ v0
  clear hb7
  have k6 := ask_any ca pa aa qa x g tX tBio 1 8 1 w7 hC.out v0 v1 v2 v3 v4
  rw [a_c6] at k6
  go_wp2_with fail
  refine k6.mono ?_
  clear k6
  rintro e w8 ⟨rfl, hb8⟩
  replace v0 := stay hb8 v0
  replace v1 := stay hb8 v1
  replace v2 := stay hb8 v2
  replace v3 := stay hb8 v3
  replace v4 := stay hb8 v4
  replace hC := hid (hC.out.below hb8)
  replace B := bnext B hb8
  replace hlt := World.block_lt_of_cell? w8 _ v0
  clear hb8
  have k7 := ask_any ca pa aa qa x g tMain tBio 0 1 1 w8 hC.out v0 v1 v2 v3 v4
  rw [a_c7] at k7
  go_wp2_with fail
  refine k7.mono ?_
  clear k7
  rintro e w9 ⟨rfl, hb9⟩
  replace B := bnext B hb9
  have k8 := check_any none none none none 0 0 0 0 0 0 0 0 0 [] [] [] [] ⟨tNo, tNo, tNo, tNo, 0, 0, 0, none, 0, 0⟩ w9 (cfr_nil _)
  rw [a_c8] at k8
  simp only [sc] at k8
  go_wp2_with fail
  refine k8.mono ?_
  rintro e w10 ⟨rfl, hb10⟩
  go_wp2
  go_ret
  exact ⟨rfl, bnext B hb10⟩

end Go.Proofs.YtilncacmkfohdaaGreat
