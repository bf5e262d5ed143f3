/- The chapter's examples. -/
import Derived.Test.YtjfgpepecjkdnaaRj
namespace Go.Proofs.Ytjfgpepecjkdnaa
open Go.RowKit
set_option linter.unusedVariables false

abbrev tPhys : ByteArray := ⟨#[112, 104, 121, 115]⟩
abbrev tLab : ByteArray := ⟨#[108, 97, 98]⟩
abbrev tBio : ByteArray := ⟨#[98, 105, 111]⟩
abbrev tNorm : ByteArray := ⟨#[110, 111, 114, 109, 97, 108]⟩
abbrev tMain : ByteArray := ⟨#[109, 97, 105, 110]⟩
abbrev tNo : ByteArray := ⟨#[]⟩
abbrev tX : ByteArray := ⟨#[120]⟩
abbrev tA : ByteArray := ⟨#[97]⟩
abbrev tB : ByteArray := ⟨#[98]⟩
def aZ : List Int := [4, 8]
def aA : List Acc := [(tPhys, tNo, -1), (tLab, tPhys, -1), (tBio, tNo, -1)]
def aQ : List Qu := [(tNorm, 0, -1, -1)]
def aM : List (Prt × List ByteArray) := [(⟨tMain, 3, 0, 100, none, 0, 0⟩, [])]
def vX : Vw := ⟨tX, 2, 10, 20, [tPhys]⟩
def vY : Vw := ⟨tA, 2, 20, 30, [tBio]⟩
def vB : Vw := ⟨tB, 2, 19, 30, [tBio]⟩

theorem a_right : rcB aZ aM aA aQ 1 = true := by kernel_rfl
theorem a_e1 : addE true 2 aA [] vX 0 = 0 := by kernel_rfl
theorem a_m1 : amP [] vX = [vX] := by kernel_rfl
theorem a_e2 : addE true 2 aA [vX] vY 0 = 0 := by kernel_rfl
theorem a_m2 : amP [vX] vY = [vY, vX] := by kernel_rfl
theorem a_e3 : addE true 2 aA [vX] vB 0 = 170 := by kernel_rfl
theorem a_r2 : rlB true 2 aA [vY, vX] = true := by kernel_rfl
theorem a_b1 : blkN aA [vX] tBio = 1 := by kernel_rfl
theorem a_b2 : blkN aA [vX] tLab = 0 := by kernel_rfl
theorem a_x1 : exP [vX] 20 = [] := by kernel_rfl
theorem a_x2 : exP [vX] 19 = [vX] := by kernel_rfl

set_option maxRecDepth 100000 in
set_option maxHeartbeats 1000000 in
theorem ex_any (w : World) : Calls Try.prog 16 #[] w fun e w' => ∃ ca pa aa qa, e = .returned (.agg #[.slice ca 2 2, .slice pa 1 1, .slice aa 3 3, .slice qa 1 1, .int .u8 1]) ∧ CfR w' ca pa aa qa 2 1 3 3 1 aZ aM aA aQ ∧ Below w.heap.size w w' := by
  go_enter Try.func16, Try.ntmps16
  go_wp2
  obtain ⟨c0, hc0⟩ : ∃ c0, c0 = #[Value.slice (some ⟨w.heap.size + 1, 0, none⟩) 2 2, .slice (some ⟨w.heap.size + 1 + 1 + 1 + 1, 0, none⟩) 1 1, .slice (some ⟨w.heap.size + 1 + 1, 0, none⟩) 3 3, .slice (some ⟨w.heap.size + 1 + 1 + 1, 0, none⟩) 1 1, .int .u8 1] := ⟨_, rfl⟩
  obtain ⟨c1, hc1⟩ : ∃ c1, c1 = #[Value.int .i64 4, .int .i64 8] := ⟨_, rfl⟩
  obtain ⟨c2, hc2⟩ : ∃ c2, c2 = #[Value.string tPhys, .string tNo, .int .i64 (-1), .string tLab, .string tPhys, .int .i64 (-1), .string tBio, .string tNo, .int .i64 (-1)] := ⟨_, rfl⟩
  obtain ⟨c3, hc3⟩ : ∃ c3, c3 = #[Value.string tNorm, .int .i64 0, .int .i64 (-1), .int .i64 (-1)] := ⟨_, rfl⟩
  obtain ⟨c5, hc5⟩ : ∃ c5, c5 = #[Value.string tMain, .int .u32 3, .int .i64 0, .int .i64 100, .slice none 0 0] := ⟨_, rfl⟩
  simp only [← hc0, ← hc1, ← hc2, ← hc3, ← hc5]
  obtain ⟨w1, hw1⟩ : ∃ w1, w1 = w.alloc (.cells c0 28) := ⟨_, rfl⟩
  obtain ⟨w2, hw2⟩ : ∃ w2, w2 = w1.alloc (.cells c1 3) := ⟨_, rfl⟩
  obtain ⟨w3, hw3⟩ : ∃ w3, w3 = w2.alloc (.cells c2 72) := ⟨_, rfl⟩
  obtain ⟨w4, hw4⟩ : ∃ w4, w4 = w3.alloc (.cells c3 74) := ⟨_, rfl⟩
  obtain ⟨w6, hw6⟩ : ∃ w6, w6 = w4.alloc (.cells c5 76) := ⟨_, rfl⟩
  simp only [← hw1, ← hw2, ← hw3, ← hw4, ← hw6]
  have z1 : w1.heap.size = w.heap.size + 1 := by rw [hw1, size_lit]
  have z2 : w2.heap.size = w.heap.size + 1 + 1 := by rw [hw2, size_lit, z1]
  have z3 : w3.heap.size = w.heap.size + 1 + 1 + 1 := by rw [hw3, size_lit, z2]
  have z4 : w4.heap.size = w.heap.size + 1 + 1 + 1 + 1 := by rw [hw4, size_lit, z3]
  have b1 : Below w.heap.size w w1 := by rw [hw1]; exact below_lit _ _
  have b2 : Below w1.heap.size w1 w2 := by rw [hw2]; exact below_lit _ _
  have b3 : Below w2.heap.size w2 w3 := by rw [hw3]; exact below_lit _ _
  have b4 : Below w3.heap.size w3 w4 := by rw [hw4]; exact below_lit _ _
  have b6 : Below w4.heap.size w4 w6 := by rw [hw6]; exact below_lit _ _
  have d4 := bnext b4 b6
  have d3 := bnext b3 d4
  have d2 := bnext b2 d3
  have d1 := bnext b1 d2
  have i1 : IAt w6 (some ⟨w.heap.size + 1, 0, none⟩) aZ := IAt.below (w := w2) (by rw [hw2, ← z1]; exact cat_lit _ _ _ _ (by rw [hc1]; rfl)) d3
  have i2 : AAt w6 (some ⟨w.heap.size + 1 + 1, 0, none⟩) aA := AAt.below (w := w3) (by rw [hw3, ← z2]; exact cat_lit _ _ _ _ (by rw [hc2]; rfl)) d4
  have i3 : QAt w6 (some ⟨w.heap.size + 1 + 1 + 1, 0, none⟩) aQ := QAt.below (w := w4) (by rw [hw4, ← z3]; exact cat_lit _ _ _ _ (by rw [hc3]; rfl)) b6
  have i5 : PtAt w6 (some ⟨w.heap.size + 1 + 1 + 1 + 1, 0, none⟩) (aM.map (·.1)) := by rw [hw6, ← z4]; exact cat_lit _ _ _ _ (by rw [hc5]; rfl)
  have hg : w6.heap[w.heap.size]? = some (.cells c0 28 (0, 0)) := by
    rw [d2.block _ (by omega), hw1]; exact heap_alloc_new _ _
  refine bodyPost_ret (results_cell_row rfl _ _ w.heap.size 28 c0 (0, 0) _ rfl hg Try.underlying28 rfl (by rw [hc0]; kernel_rfl)) rfl ?_
  refine ⟨_, _, _, _, by rw [hc0], ⟨rfl, i1, by omega, rfl, i5, by omega, ?_, ?_, rfl, i2, by omega, by omega, rfl, i3, by omega⟩, d1⟩
  · intro p hp
    simp only [aM, List.mem_cons, List.not_mem_nil, or_false] at hp
    subst hp
    exact ⟨rfl, TAt.nil _ _, by dsimp only; omega⟩
  · intro p hp
    simp only [aM, List.mem_cons, List.not_mem_nil, or_false] at hp
    subst hp
    exact ⟨3, rfl, by omega⟩

/-- The config, in the block g. -/
structure Cg (w : World) (g : Nat) (ca pa aa qa : Option Addr) : Prop where
  cf : CfR w ca pa aa qa 2 1 3 3 1 aZ aM aA aQ
  c0 : w.cell? ⟨g, 0, none⟩ = some (.slice ca 2 2)
  c1 : w.cell? ⟨g, 1, none⟩ = some (.slice pa 1 1)
  c2 : w.cell? ⟨g, 2, none⟩ = some (.slice aa 3 3)
  c3 : w.cell? ⟨g, 3, none⟩ = some (.slice qa 1 1)
  c4 : w.cell? ⟨g, 4, none⟩ = some (.int .u8 1)
theorem Cg.below {w w' : World} {g : Nat} {ca pa aa qa : Option Addr} (h : Cg w g ca pa aa qa) (hb : Below w.heap.size w w') : Cg w' g ca pa aa qa := ⟨h.cf.below hb, stay hb h.c0, stay hb h.c1, stay hb h.c2, stay hb h.c3, stay hb h.c4⟩
theorem Cg.kp {S : Nat → Prop} {w w' : World} {g : Nat} {ca pa aa qa : Option Addr} {b : Nat} (h : Cg w g ca pa aa qa) (w0 : World) (h0 : CfR w0 ca pa aa qa 2 1 3 3 1 aZ aM aA aQ) (hb : Below w0.heap.size w0 w') (hk : Kp S w w') (hg : ¬ S g) : Cg w' g ca pa aa qa := ⟨h0.below hb, stayK hk hg h.c0, stayK hk hg h.c1, stayK hk hg h.c2, stayK hk hg h.c3, stayK hk hg h.c4⟩

theorem rc_true : rcB aZ aM aA aQ 1 = true := a_right

theorem map_len {M : List (Prt × List ByteArray)} {V : List Vw} {w : World} {a : Option Addr} {n : Nat} (h : RL w a n M) (hv : M.map vw = V) : n = V.length := by rw [← hv, List.length_map, h.len]

set_option maxRecDepth 100000 in
set_option maxHeartbeats 4000000 in
theorem awake_any (w : World) : Calls Try.prog 7 #[] w fun e w' => e = .returned (.bool true) ∧ Below w.heap.size w w' := by
  go_enter Try.func7, Try.ntmps7
  go_wp2_with fail
  refine (ex_any w).mono ?_
  rintro e w1 ⟨ca, pa, aa, qa, rfl, hC, hb1⟩
  obtain ⟨W0, hW0⟩ : ∃ W0, W0 = w1.alloc (.cells #[.slice ca 2 2, .slice pa 1 1, .slice aa 3 3, .slice qa 1 1, .int .u8 1] 28) := ⟨_, rfl⟩
  obtain ⟨W1, hW1⟩ : ∃ W1, W1 = W0.alloc (.cells #[.string tPhys] 9) := ⟨_, rfl⟩
  obtain ⟨W2, hW2⟩ : ∃ W2, W2 = W1.alloc (.cells #[.string tX, .int .u32 2, .int .i64 10, .int .i64 20, .slice (some ⟨w1.heap.size + 1, 0, none⟩) 1 1] 38) := ⟨_, rfl⟩
  have z0 : W0.heap.size = w1.heap.size + 1 := by rw [hW0, size_lit]
  have z1 : W1.heap.size = w1.heap.size + 1 + 1 := by rw [hW1, size_lit, z0]
  have b0 : Below w1.heap.size w1 W0 := by rw [hW0]; exact below_lit _ _
  have b1 : Below W0.heap.size W0 W1 := by rw [hW1]; exact below_lit _ _
  have b2 : Below W1.heap.size W1 W2 := by rw [hW2]; exact below_lit _ _
  have hcg0 : Cg W0 w1.heap.size ca pa aa qa := ⟨hC.below b0, by rw [hW0]; exact lit_cell _ _ _ _ _ rfl, by rw [hW0]; exact lit_cell _ _ _ _ _ rfl, by rw [hW0]; exact lit_cell _ _ _ _ _ rfl, by rw [hW0]; exact lit_cell _ _ _ _ _ rfl, by rw [hW0]; exact lit_cell _ _ _ _ _ rfl⟩
  have hcg := hcg0.below (bnext b1 b2)
  have htx : TAt W2 (some ⟨w1.heap.size + 1, 0, none⟩) [tPhys] := TAt.below (w := W1) (by rw [hW1, ← z0]; exact cat_lit _ _ _ _ rfl) b2
  have B := bnext (bnext (bnext hb1 b0) b1) b2
  have x0 : W2.cell? ⟨w1.heap.size + 1 + 1, 0, none⟩ = some (.string tX) := by rw [hW2, ← z1]; exact lit_cell _ _ _ _ _ rfl
  have x1 : W2.cell? ⟨w1.heap.size + 1 + 1, 1, none⟩ = some (.int .u32 2) := by rw [hW2, ← z1]; exact lit_cell _ _ _ _ _ rfl
  have x2 : W2.cell? ⟨w1.heap.size + 1 + 1, 2, none⟩ = some (.int .i64 10) := by rw [hW2, ← z1]; exact lit_cell _ _ _ _ _ rfl
  have x3 : W2.cell? ⟨w1.heap.size + 1 + 1, 3, none⟩ = some (.int .i64 20) := by rw [hW2, ← z1]; exact lit_cell _ _ _ _ _ rfl
  have x4 : W2.cell? ⟨w1.heap.size + 1 + 1, 4, none⟩ = some (.slice (some ⟨w1.heap.size + 1, 0, none⟩) 1 1) := by rw [hW2, ← z1]; exact lit_cell _ _ _ _ _ rfl
  obtain ⟨v0, v1, v2, v3, v4⟩ := (⟨hcg.c0, hcg.c1, hcg.c2, hcg.c3, hcg.c4⟩ : _ ∧ _ ∧ _ ∧ _ ∧ _)
  have k1 := radd_any ca pa aa qa 2 2 1 1 3 3 1 1 1 aZ aM aA aQ none 0 0 [] tX 2 10 20 (some ⟨w1.heap.size + 1, 0, none⟩) 1 1 [tPhys] 0 W2 hcg.cf (RL.nil _ _) (Nat.le_refl _) (by omega) rfl (by omega) htx
  rw [a_right] at k1
  have e1 : addE true 2 aA (List.map vw []) ⟨tX, 2, 10, 20, [tPhys]⟩ 0 = 0 := a_e1
  rw [e1] at k1
  replace hcg := hid hcg
  replace hcg0 := hid hcg0
  replace htx := hid htx
  replace z0 := hid z0
  replace z1 := hid z1
  replace e1 := hid e1
  replace hC := hid hC
  go_wp2_with fail
  rw [← hW0, ← hW1, ← hW2]
  replace hW0 := hid hW0
  replace hW1 := hid hW1
  replace hW2 := hid hW2
  refine k1.mono ?_
  clear k1
  rintro e w2 ⟨la, n1, lc, M1, rfl, hn1, hL1, hm1, hf1, hb2⟩
  replace hm1 : M1.map vw = [vX] := (hm1 rfl).trans a_m1
  obtain rfl : n1 = 1 := map_len hL1 hm1
  replace hcg := hid (hcg.out.below hb2)
  replace B := bnext B hb2
  generalize w1.heap.size = g at *
  clear x0 x1 x2 x3 x4 v0 v1 v2 v3 v4 hb1 b0 b1 b2 hb2 hcg0 htx
  obtain ⟨W3, hW3⟩ : ∃ W3, W3 = w2.alloc (.cells #[.string tBio] 9) := ⟨_, rfl⟩
  obtain ⟨W4, hW4⟩ : ∃ W4, W4 = W3.alloc (.cells #[.string tA, .int .u32 2, .int .i64 20, .int .i64 30, .slice (some ⟨w2.heap.size, 0, none⟩) 1 1] 38) := ⟨_, rfl⟩
  have z3 : W3.heap.size = w2.heap.size + 1 := by rw [hW3, size_lit]
  have b3 : Below w2.heap.size w2 W3 := by rw [hW3]; exact below_lit _ _
  have b4 : Below W3.heap.size W3 W4 := by rw [hW4]; exact below_lit _ _
  have b34 := bnext b3 b4
  have hcg2 := hcg.out.below b34
  have hty : TAt W4 (some ⟨w2.heap.size, 0, none⟩) [tBio] := TAt.below (w := W3) (by rw [hW3]; exact cat_lit _ _ _ _ rfl) b4
  have r0 : W4.heap[w2.heap.size + 1]? = some (.cells #[.string tA, .int .u32 2, .int .i64 20, .int .i64 30, .slice (some ⟨w2.heap.size, 0, none⟩) 1 1] 38 (0, 0)) := by rw [hW4, ← z3]; exact heap_alloc_new _ _
  have x0 := row_cell r0 0 (.string tA) rfl
  have x1 := row_cell r0 1 (.int .u32 2) rfl
  have x2 := row_cell r0 2 (.int .i64 20) rfl
  have x3 := row_cell r0 3 (.int .i64 30) rfl
  have x4 := row_cell r0 4 (.slice (some ⟨w2.heap.size, 0, none⟩) 1 1) rfl
  have hL2 := hL1.below b34
  obtain ⟨v0, v1, v2, v3, v4⟩ := (⟨hcg.out.c0, hcg.out.c1, hcg.out.c2, hcg.out.c3, hcg.out.c4⟩ : _ ∧ _ ∧ _ ∧ _ ∧ _)
  have k2 := radd_any ca pa aa qa 2 2 1 1 3 3 1 1 1 aZ aM aA aQ la 1 lc M1 tA 2 20 30 (some ⟨w2.heap.size, 0, none⟩) 1 1 [tBio] 0 W4 hcg2.cf hL2 hn1 (by omega) rfl (by omega) hty
  rw [a_right, hm1] at k2
  have e2 : addE true 2 aA [vX] ⟨tA, 2, 20, 30, [tBio]⟩ 0 = 0 := a_e2
  rw [e2] at k2
  have l0 := World.block_lt_of_cell? w2 _ v0
  have l1 := World.block_lt_of_cell? W4 _ x0
  replace hcg2 := hid hcg2
  replace hty := hid hty
  replace r0 := hid r0
  replace e2 := hid e2
  replace hm1 := hid hm1
  replace hL1 := hid hL1
  replace hL2 := hid hL2
  replace hf1 := hid hf1
  replace z3 := hid z3
  go_wp2_with fail
  rw [← hW3, ← hW4]
  replace hW3 := hid hW3
  replace hW4 := hid hW4
  refine k2.mono ?_
  clear k2
  rintro e w3 ⟨ma, n2, mc, M2, rfl, hn2, hL3, hm2, hf2, hb3⟩
  replace hm2 : M2.map vw = [vY, vX] := (hm2 rfl).trans a_m2
  obtain rfl : n2 = 2 := map_len hL3 hm2
  have hcg3 := hcg2.out.below hb3
  have hL4 := hid (hL2.out.below hb3)
  have hB3 := bnext (bnext B b34) hb3
  have hsz3 : w2.heap.size + 1 < W4.heap.size := l1
  have q0 : w3.heap[w2.heap.size + 1]? = some (.cells #[.string tA, .int .u32 2, .int .i64 20, .int .i64 30, .slice (some ⟨w2.heap.size, 0, none⟩) 1 1] 38 (0, 0)) := by
    rw [hb3.block _ hsz3]; exact r0.out
  have hty3 := hid (hty.out.below hb3)
  obtain ⟨W5, hW5⟩ : ∃ W5, W5 = w3.setRow (w2.heap.size + 1) #[.string tB, .int .u32 2, .int .i64 19, .int .i64 30, .slice (some ⟨w2.heap.size, 0, none⟩) 1 1] := ⟨_, rfl⟩
  have q5 : W5.heap[w2.heap.size + 1]? = some (.cells #[.string tB, .int .u32 2, .int .i64 19, .int .i64 30, .slice (some ⟨w2.heap.size, 0, none⟩) 1 1] 38 (0, 0)) := by rw [hW5]; exact setRow_heap _ _ _ _ _ _ q0
  have hset : (w3.setCell ⟨w2.heap.size + 1, 2, none⟩ (.int .i64 19)).setCell ⟨w2.heap.size + 1, 0, none⟩ (.string tB) = W5 := by
    rw [setCell_eq_setRow _ _ _ _ _ _ _ q0, setCell_eq_setRow _ _ _ _ _ _ _ (setRow_heap _ _ _ _ _ _ q0), setRow_setRow, hW5]; rfl
  have K5 : Kp (fun b => b = w2.heap.size + 1) w3 W5 := by rw [hW5]; exact kp_setRow (S := fun b => b = w2.heap.size + 1) (Kp.refl _ _) rfl _
  have b35 : Below w2.heap.size w2 W5 := (bnext b34 hb3).trans (K5.below (fun b hb => by omega) (by have := (bnext b34 hb3).size; omega))
  have hcg5 := hcg.out.below b35
  have hL5 := hL1.out.below b35
  have hM5 : RO W5 W4.heap.size (.slice ma 2 mc) M2 := hf2.kp K5 (fun b hb => by omega)
  have hML5 := hM5.rl hL3.len (by omega)
  have hty5 : TAt W5 (some ⟨w2.heap.size, 0, none⟩) [tBio] := hty3.out.kp K5 (fun x hx => by cases hx; dsimp only; omega)
  have B5 : Below w.heap.size w W5 := bnext B b35
  have f2 := row_free q0 2
  have y0 := row_cell q0 0 (.string tA) rfl
  have y2 := row_cell q0 2 (.int .i64 20) rfl
  have u0 := row_cell q5 0 (.string tB) rfl
  have u1 := row_cell q5 1 (.int .u32 2) rfl
  have u2 := row_cell q5 2 (.int .i64 19) rfl
  have u3 := row_cell q5 3 (.int .i64 30) rfl
  have u4 := row_cell q5 4 (.slice (some ⟨w2.heap.size, 0, none⟩) 1 1) rfl
  have f0 := row_free (setRow_heap w3 (w2.heap.size + 1) _ #[.string tA, .int .u32 2, .int .i64 19, .int .i64 30, .slice (some ⟨w2.heap.size, 0, none⟩) 1 1] _ _ q0) 0
  have hset1 : w3.setCell ⟨w2.heap.size + 1, 2, none⟩ (.int .i64 19) = w3.setRow (w2.heap.size + 1) #[.string tA, .int .u32 2, .int .i64 19, .int .i64 30, .slice (some ⟨w2.heap.size, 0, none⟩) 1 1] := by
    rw [setCell_eq_setRow _ _ _ _ _ _ _ q0]; rfl
  rw [← hset1] at f0
  have f00 := row_free q0 0
  obtain ⟨p0, p1, p2, p3, p4⟩ := (⟨hcg5.c0, hcg5.c1, hcg5.c2, hcg5.c3, hcg5.c4⟩ : _ ∧ _ ∧ _ ∧ _ ∧ _)
  rw [← hset] at p0 p1 p2 p3 p4 u0 u1 u2 u3 u4
  have k3 := radd_any ca pa aa qa 2 2 1 1 3 3 1 1 1 aZ aM aA aQ la 1 lc M1 tB 2 19 30 (some ⟨w2.heap.size, 0, none⟩) 1 1 [tBio] 0 W5 hcg5.cf hL5 hn1 (by omega) rfl (by omega) hty5
  rw [a_right, hm1.out] at k3
  have e3 : addE true 2 aA [vX] ⟨tB, 2, 19, 30, [tBio]⟩ 0 = 170 := a_e3
  rw [e3] at k3
  replace hcg5 := hid hcg5
  replace hcg3 := hid hcg3
  replace hL5 := hid hL5
  replace hML5 := hid hML5
  replace hM5 := hid hM5
  replace hm2 := hid hm2
  replace hL3 := hid hL3
  replace hf2 := hid hf2
  replace hty5 := hid hty5
  replace q0 := hid q0
  replace q5 := hid q5
  replace e3 := hid e3
  replace hset := hid hset
  replace hset1 := hid hset1
  replace K5 := hid K5
  replace hW5 := hid hW5
  clear x0 x1 x2 x3 x4 v0 v1 v2 v3 v4 l0 hb3 hB3
  generalize hgy : w2.heap.size + 1 = gy at *
  replace hgy := hid hgy
  generalize hgb : (⟨w2.heap.size, 0, none⟩ : Addr) = ab at *
  replace hgb := hid hgb
  go_wp2_with fail
  rw [hset.out]
  refine k3.mono ?_
  clear k3
  rintro e w5 ⟨na, n3, nc, M3, rfl, _, _, _, _, hb5⟩
  replace B5 := bnext B5 hb5
  replace hcg := hcg5.out.below hb5
  replace hL1 := hL5.out.below hb5
  have hLm := hML5.out.below hb5
  clear p0 p1 p2 p3 p4 u0 u1 u2 u3 u4 y0 y2 f0 f00 f2 hb5 b34 b35 b3 b4 l1 hsz3
  obtain ⟨p0, p1, p2, p3, p4⟩ := (⟨hcg.c0, hcg.c1, hcg.c2, hcg.c3, hcg.c4⟩ : _ ∧ _ ∧ _ ∧ _ ∧ _)
  have hglt := World.block_lt_of_cell? w5 _ p0
  have kR := rright_any ca pa aa qa 2 2 1 1 3 3 1 1 1 aZ aM aA aQ ma 2 mc M2 w5 hcg.cf hLm hn2
  rw [a_right, hm2.out, a_r2] at kR
  replace hcg := hid hcg
  replace hL1 := hid hL1
  replace hLm := hid hLm
  go_wp2_with fail
  refine kR.mono ?_
  clear kR
  rintro e w6 ⟨rfl, hb6⟩
  replace B5 := bnext B5 hb6
  replace hcg := hcg.out.below hb6
  replace hL1 := hL1.out.below hb6
  replace hLm := hLm.out.below hb6
  clear p0 p1 p2 p3 p4 hglt hb6
  obtain ⟨p0, p1, p2, p3, p4⟩ := (⟨hcg.c0, hcg.c1, hcg.c2, hcg.c3, hcg.c4⟩ : _ ∧ _ ∧ _ ∧ _ ∧ _)
  have hglt := World.block_lt_of_cell? w6 _ p0
  have h2l : (M2.map (·.1)).length = 2 := by rw [List.length_map]; exact hLm.len
  have hM2l : 0 < M2.length := by rw [hLm.len]; omega
  obtain ⟨mb, mo, e⟩ := hLm.mat.place (by omega)
  subst e
  obtain ⟨y0, _, _, _, _⟩ := hLm.mat.one (i := 0) (by omega)
  rw [mAt_fst hM2l] at y0
  have hnm : (mAt M2 0).1.name = tA := by
    have h9 := vAt_vw hM2l
    rw [hm2.out] at h9
    have h8 := congrArg Vw.name h9
    exact h8.symm
  rw [hnm] at y0
  simp only [Nat.zero_mul, Nat.add_zero] at y0
  have kB := rblocks_any ca pa aa qa 2 2 1 1 3 3 1 1 1 aZ aM aA aQ la 1 lc M1 tBio w6 hcg.cf hL1 (by omega)
  rw [hm1.out, a_b1] at kB
  replace hcg := hid hcg
  replace hL1 := hid hL1
  replace hLm := hid hLm
  replace hnm := hid hnm
  replace h2l := hid h2l
  replace hM2l := hid hM2l
  go_wp2_with fail
  refine kB.mono ?_
  clear kB
  rintro e w7 ⟨ba, bc, rfl, hb7⟩
  replace B5 := bnext B5 hb7
  replace hcg := hcg.out.below hb7
  replace hL1 := hL1.out.below hb7
  clear p0 p1 p2 p3 p4 hglt hb7 y0
  obtain ⟨p0, p1, p2, p3, p4⟩ := (⟨hcg.c0, hcg.c1, hcg.c2, hcg.c3, hcg.c4⟩ : _ ∧ _ ∧ _ ∧ _ ∧ _)
  have hglt := World.block_lt_of_cell? w7 _ p0
  have kB := rblocks_any ca pa aa qa 2 2 1 1 3 3 1 1 1 aZ aM aA aQ la 1 lc M1 tLab w7 hcg.cf hL1 (by omega)
  rw [hm1.out, a_b2] at kB
  replace hcg := hid hcg
  replace hL1 := hid hL1
  go_wp2_with fail
  refine kB.mono ?_
  clear kB
  rintro e w8 ⟨ba2, bc2, rfl, hb8⟩
  replace B5 := bnext B5 hb8
  replace hL1 := hL1.out.below hb8
  have hd1 : ∀ p ∈ M1, p.1.dn ≤ 1000 := fun p hp => (hf1.out.few p hp).2.1
  clear p0 p1 p2 p3 p4 hglt hb8 hcg
  have kE := expire_any la 1 lc 20 M1 w8 hL1 (by omega) hd1
  rw [hm1.out, a_x1] at kE
  replace hL1 := hid hL1
  go_wp2_with fail
  refine kE.mono ?_
  clear kE
  rintro e w9 ⟨ea, en, ec, M4, rfl, hen, hR4, hm4, _, hb9⟩
  obtain rfl : en = 0 := map_len hR4 hm4
  replace B5 := bnext B5 hb9
  replace hL1 := hL1.out.below hb9
  have kE := expire_any la 1 lc 19 M1 w9 hL1 (by omega) hd1
  rw [hm1.out, a_x2] at kE
  replace hL1 := hid hL1
  replace hR4 := hid hR4
  replace hm4 := hid hm4
  go_wp2_with fail
  refine kE.mono ?_
  clear kE
  rintro e w10 ⟨fa, fn, fc, M5, rfl, hfn, hR5, hm5, _, hb10⟩
  obtain rfl : fn = 1 := map_len hR5 hm5
  replace B5 := bnext B5 hb10
  replace hR5 := hid hR5
  replace hm5 := hid hm5
  go_wp2
  go_ret
  exact ⟨rfl, B5⟩

end Go.Proofs.Ytjfgpepecjkdnaa
