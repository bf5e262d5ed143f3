/- The chapter's examples. -/
import Derived.Test.YtphkdjacladcpaaAw7
import Derived.Deep.DeepCutAuto
namespace Go.Proofs.Ytphkdjacladcpaa
open Go.RowKit
set_option linter.unusedVariables false
set_option linter.unusedSimpArgs false

def jz (id st : Int) : Job := ⟨id, 0, 0, ⟨⟨#[]⟩, ⟨#[]⟩, ⟨#[]⟩, ⟨#[]⟩, 0, 0, 0, none, 0, 0⟩, st, 0, 0, 0, 0, 0⟩
def L3 : List Job := [jz 1 3, jz 2 4, jz 3 2]
def exD : List Dp := [(2, 1), (2, 2), (3, 2), (1, 2), (1, 3), (2, 9)]
def exH : List Bool := [true, false, true, true, false, false]
def exN : List Bool := [false, true, false, false, false, true]
theorem ex_h : ∀ i, i < 6 → exH.getD i false = holdsP [dpAt exD i] L3 := by decide +kernel
theorem ex_n : ∀ i, i < 6 → exN.getD i false = neverP [dpAt exD i] L3 := by decide +kernel
theorem rt_200 : RT [(2, 5)] 5 200 := .inr ⟨by decide, .inr ⟨by decide, 0, by decide, by decide +kernel, fun m h => by omega⟩⟩
theorem rt_0 : RT [(2, 5)] 6 0 := .inr ⟨by decide, .inl ⟨rfl, fun m h => by
  have : m = 0 := by
    have h2 : m < 1 := h
    omega
  subst this
  decide +kernel⟩⟩
theorem ix_any (j : Nat) (hj : j < 6) (w : World) : (Instr.index 52 (.agg #[.int .u8 2, .int .i64 1, .int .u8 2, .int .i64 2, .int .u8 3, .int .i64 2, .int .u8 1, .int .i64 2, .int .u8 1, .int .i64 3, .int .u8 2, .int .i64 9]) (.int .i64 (j : Int))).run Try.prog w = .ok (.agg (dc2 (dpAt exD j)).toArray) w := by
  have hcase : j = 0 ∨ j = 1 ∨ j = 2 ∨ j = 3 ∨ j = 4 ∨ j = 5 := by omega
  rcases hcase with rfl | rfl | rfl | rfl | rfl | rfl <;> rfl
abbrev bcs (l : List Bool) : Array Value := (l.map Value.bool).toArray
theorem bc_cell {w : World} {g : Nat} {l : List Bool} {t : TypeId} (h : w.heap[g]? = some (.cells (bcs l) t (0, 0))) {i : Nat} (hi : i < l.length) : w.cell? ⟨g, i, none⟩ = some (.bool (l.getD i false)) := by
  refine row_cell h i _ ?_
  simp [hi]

set_option maxRecDepth 100000 in
set_option maxHeartbeats 4000000 in
theorem awake_any (w : World) : Calls Try.prog 6 #[] w fun e w' => e = .returned (.bool true) ∧ Below w.heap.size w w' := by
  obtain ⟨WA, hWA⟩ : ∃ WA, WA = w.alloc (.cells (L3.flatMap jc).toArray 42) := ⟨_, rfl⟩
  have blA := below_lit w (.cells (L3.flatMap jc).toArray 42)
  have sA := size_lit w (.cells (L3.flatMap jc).toArray 42)
  have hatA : JAt WA (some ⟨w.heap.size, 0, none⟩) L3 := by rw [hWA]; exact cat_lit w 42 (L3.flatMap jc) _ rfl
  rw [← hWA] at blA sA
  obtain ⟨WB, hWB⟩ : ∃ WB, WB = WA.alloc (.cells (bcs exH) 48) := ⟨_, rfl⟩
  have blB := below_lit WA (.cells (bcs exH) 48)
  have sB := size_lit WA (.cells (bcs exH) 48)
  have rB := heap_alloc_new WA (.cells (bcs exH) 48)
  rw [← hWB] at blB sB rB
  obtain ⟨WC, hWC⟩ : ∃ WC, WC = WB.alloc (.cells (bcs exN) 48) := ⟨_, rfl⟩
  have blC := below_lit WB (.cells (bcs exN) 48)
  have sC := size_lit WB (.cells (bcs exN) 48)
  have rC := heap_alloc_new WB (.cells (bcs exN) 48)
  rw [← hWC] at blC sC rC
  have hatC := hid ((hatA.below blB).below blC)
  have cB := hid (fun i (hi : i < 6) => stay blC (bc_cell rB (l := exH) hi))
  have cC := hid (fun i (hi : i < 6) => bc_cell rC (l := exN) hi)
  have BC := bnext (bnext blA blB) blC
  clear rB rC
  have eW : WC = ((w.alloc (.cells #[.int .i64 1, .int .i64 0, .int .i64 0, .string ⟨#[]⟩, .string ⟨#[]⟩, .string ⟨#[]⟩, .string ⟨#[]⟩, .int .i64 0, .int .i64 0, .int .i64 0, .slice none 0 0, .int .u8 3, .int .i64 0, .int .i64 0, .int .i64 0, .int .u32 0, .int .i64 0, .int .i64 2, .int .i64 0, .int .i64 0, .string ⟨#[]⟩, .string ⟨#[]⟩, .string ⟨#[]⟩, .string ⟨#[]⟩, .int .i64 0, .int .i64 0, .int .i64 0, .slice none 0 0, .int .u8 4, .int .i64 0, .int .i64 0, .int .i64 0, .int .u32 0, .int .i64 0, .int .i64 3, .int .i64 0, .int .i64 0, .string ⟨#[]⟩, .string ⟨#[]⟩, .string ⟨#[]⟩, .string ⟨#[]⟩, .int .i64 0, .int .i64 0, .int .i64 0, .slice none 0 0, .int .u8 2, .int .i64 0, .int .i64 0, .int .i64 0, .int .u32 0, .int .i64 0] 42)).alloc (.cells #[.bool true, .bool false, .bool true, .bool true, .bool false, .bool false] 48)).alloc (.cells #[.bool false, .bool true, .bool false, .bool false, .bool false, .bool true] 48) := by rw [hWC, hWB, hWA]; rfl
  go_enter Try.func6, Try.ntmps6
  go_wp2_with fail
  rw [← eW]
  replace eW := hid eW
  replace hWA := hid hWA
  replace hWB := hid hWB
  replace hWC := hid hWC
  have p2 : (w.alloc (.cells (L3.flatMap jc).toArray 42)).heap.size = WA.heap.size := by rw [← hWA.out]
  go_loopw [19] (fun i wr => ∃ j : Nat, j ≤ 6 ∧ i = .int .i64 (j : Int) ∧ Below WC.heap.size WC wr) (fun i _ => 6 - (intOf i).toNat)
  case atStart => exact ⟨0, Nat.zero_le _, rfl, Below.refl _ _⟩
  case round =>
    obtain ⟨j, hj, rfl, hb⟩ := hrel
    by_cases hlt : j < 6
    · have hatR := hid (hatC.out.below hb)
      have cBj := stay hb (cB.out j hlt)
      have cCj := stay hb (cC.out j hlt)
      rw [ex_h j hlt] at cBj
      rw [ex_n j hlt] at cCj
      replace cBj := hid cBj
      replace cCj := hid cCj
      have hdj : ∃ d, d = dpAt exD j := ⟨_, rfl⟩
      obtain ⟨d, hd⟩ := hdj
      rw [← hd] at cBj cCj
      have blR := below_lit wr (.cells (dc2 d).toArray 51)
      have rR := hid (heap_alloc_new wr (.cells (dc2 d).toArray 51))
      have sR := size_lit wr (.cells (dc2 d).toArray 51)
      have bR2 := bnext hb blR
      obtain ⟨W5, hW5⟩ : ∃ W5, W5 = wr.alloc (.cells (dc2 d).toArray 51) := ⟨_, rfl⟩
      rw [← hW5] at blR rR sR bR2
      have hatS := hid (hatR.out.below blR)
      have cBk := hid (stay blR cBj.out)
      have cCk := hid (stay blR cCj.out)
      have hix : ∀ w, (Instr.index 52 (.agg #[.int .u8 2, .int .i64 1, .int .u8 2, .int .i64 2, .int .u8 3, .int .i64 2, .int .u8 1, .int .i64 2, .int .u8 1, .int .i64 3, .int .u8 2, .int .i64 9]) (.int .i64 (j : Int))).run Try.prog w = .ok (.agg (dc2 d).toArray) w := fun w => by rw [hd]; exact ix_any j hlt w
      have hltI : (j : Int) < 6 := by omega
      replace hd := hid hd
      replace hW5 := hid hW5
      have e1 : w.heap.size + 1 = WA.heap.size := by rw [sA]
      have e2 : w.heap.size + 1 + 1 = WB.heap.size := by rw [sB, sA]
      replace sA := hid sA
      replace sB := hid sB
      replace sC := hid sC
      replace e1 := hid e1
      replace e2 := hid e2
      go_upto_region 7 with (refine wpList_store_row rfl 51 (.tmp 5) (.tmp 22) rfl wr.heap.size (dc2 d).toArray rfl rfl 51 _ (heap_alloc_new wr _) (by kernel_rfl) rfl (dc2_all _) ?_; rw [alloc_setRow])
      rw [← hW5.out]
      have cB2 : Hid (W5.cell? ⟨w.heap.size + 1, j, none⟩ = some (.bool (holdsP [d] L3))) := by rw [e1.out]; exact cBk
      have cC2 : Hid (W5.cell? ⟨w.heap.size + 1 + 1, j, none⟩ = some (.bool (neverP [d] L3))) := by rw [e2.out]; exact cCk
      refine Code.wp_mono nrm_of ?_
      refine aw_r7 (L := L3) rR (by rw [sR]; omega) rfl hatS hlt cB2 cC2 (hid ?_)
      intro d23 d24 d25 d26 d27 d28 d29 d30 d31 d32 d33 d34 d35 d36 d37 d38 d39 d40 w7 hb7 h40
      subst h40
      have B7 := bnext hb (bnext blR hb7)
      clear cB2 cC2 cBk cCk hix
      go_wp2_with fail
      go_roundw
      case rel => exact ⟨j + 1, by omega, by go_num, B7⟩
      case measure => simp [intOf]; omega
    · have hje : j = 6 := by omega
      subst hje
      have B3 := bnext BC hb
      have k1 := fun (wx : World) (g : Nat) (hg : DAt wx (some ⟨g, 0, none⟩) [(2, 5)]) => dright_any (some ⟨g, 0, none⟩) 1 1 [(2, 5)] 5 wx rfl (by decide) (by decide) hg
      have k2 := fun (wx : World) (g : Nat) (hg : DAt wx (some ⟨g, 0, none⟩) [(2, 5)]) => dright_any (some ⟨g, 0, none⟩) 1 1 [(2, 5)] 6 wx rfl (by decide) (by decide) hg
      have d1 : DAt (wr.alloc (.cells #[.int .u8 2, .int .i64 5] 51)) (some ⟨wr.heap.size, 0, none⟩) [(2, 5)] := cat_lit wr 51 (dc2 (2, 5)) _ rfl
      have b1 := below_lit wr (.cells #[.int .u8 2, .int .i64 5] 51)
      replace d1 := hid d1
      go_wp2_with fail
      refine (k1 _ _ d1.out).mono ?_
      rintro e w1 ⟨⟨E, rfl, hE⟩, hb1⟩
      obtain rfl := RT.uniq hE rt_200
      have d2 : DAt (w1.alloc (.cells #[.int .u8 2, .int .i64 5] 51)) (some ⟨w1.heap.size, 0, none⟩) [(2, 5)] := cat_lit w1 51 (dc2 (2, 5)) _ rfl
      have b2 := below_lit w1 (.cells #[.int .u8 2, .int .i64 5] 51)
      have B4 := bnext (bnext (bnext B3 b1) hb1) b2
      replace d2 := hid d2
      go_wp2_with fail
      refine (k2 _ _ d2.out).mono ?_
      rintro e w2 ⟨⟨E, rfl, hE2⟩, hb2⟩
      obtain rfl := RT.uniq hE2 rt_0
      go_wp2_with fail
      go_ret
      exact ⟨rfl, bnext B4 hb2⟩

end Go.Proofs.Ytphkdjacladcpaa
