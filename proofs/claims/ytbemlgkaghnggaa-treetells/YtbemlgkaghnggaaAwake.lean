/- The chapter's examples. -/
import Derived.Test.YtbemlgkaghnggaaBelow
namespace Go.Proofs.Ytbemlgkaghnggaa
open Go.RowKit

theorem AAt.drop {w : World} {b o : Nat} {C : List Acc} (h : AAt w (some ⟨b, o, none⟩) C) (k : Nat) (hk : k ≤ C.length) : AAt w (some ⟨b, o + k * 3, none⟩) (C.drop k) := by
  intro hne
  have hpos : 0 < C.length := by
    rcases Nat.eq_zero_or_pos C.length with h0 | h0
    · exact absurd (by rw [List.eq_nil_of_length_eq_zero h0]; simp) hne
    · exact h0
  obtain ⟨b', o', e, hc⟩ := h (ac_ne hpos)
  cases e
  refine ⟨b, o + k * 3, rfl, fun i hi => ?_⟩
  have hsp : C.flatMap ac = (C.take k).flatMap ac ++ (C.drop k).flatMap ac := by rw [← List.flatMap_append, List.take_append_drop]
  have hl : ((C.take k).flatMap ac).length = k * 3 := by rw [ac_len, List.length_take]; congr 1; omega
  have hi2 : k * 3 + i < (C.flatMap ac).length := by rw [hsp, List.length_append]; omega
  rw [show o + k * 3 + i = o + (k * 3 + i) by omega, hc (k * 3 + i) hi2]
  congr 1
  simp only [hsp]
  rw [List.getElem_append_right (by omega)]
  congr 1
  omega

abbrev sAll : ByteArray := ⟨#[97, 108, 108]⟩
abbrev sPhys : ByteArray := ⟨#[112, 104, 121, 115]⟩
abbrev sBio : ByteArray := ⟨#[98, 105, 111]⟩
abbrev sLab : ByteArray := ⟨#[108, 97, 98]⟩
abbrev sX : ByteArray := ⟨#[120]⟩
abbrev sA1 : ByteArray := ⟨#[97, 45, 49]⟩
abbrev sNo : ByteArray := ⟨#[]⟩

def L0 : List Acc := [(sAll, sNo, -1), (sPhys, sAll, 8), (sBio, sAll, 0), (sLab, sPhys, 0)]

theorem e_lab : errP L0 sLab = 0 := by decide +kernel
theorem p_lab : pathP L0 sLab = [sLab, sPhys, sAll] := by decide +kernel
theorem e_phys : errP L0 sPhys = 0 := by decide +kernel
theorem b_phys : belowP L0 sPhys = [sPhys, sLab] := by decide +kernel
theorem e_x : errP L0 sX = 141 := by decide +kernel
theorem e_bio : lerrP L0 sBio 8 = 0 := by decide +kernel
theorem l_bio : limP L0 sBio 8 = [(sAll, sNo, -1), (sPhys, sAll, 8), (sBio, sAll, 8), (sLab, sPhys, 0)] := by decide +kernel
theorem r_tail : rightB (L0.drop 1) = false := by decide +kernel
theorem n_a1 : nameB sA1 = true := by decide +kernel

set_option maxRecDepth 100000 in
set_option maxHeartbeats 1000000 in
theorem awake_any (w : World) : Calls Try.prog 21 #[] w fun e w' => e = .returned (.bool true) ∧ Below w.heap.size w w' := by
  obtain ⟨cells, hcells⟩ : ∃ cells : Array Value, cells = #[.string sAll, .string sNo, .int .i64 (-1), .string sPhys, .string sAll, .int .i64 8, .string sBio, .string sAll, .int .i64 0, .string sLab, .string sPhys, .int .i64 0] := ⟨_, rfl⟩
  have hat : AAt (w.alloc (.cells cells 37)) (some ⟨w.heap.size, 0, none⟩) L0 := cat_lit _ _ _ _ (by rw [hcells]; rfl)
  have bl := below_lit w (.cells cells 37)
  have k1 := pathf_any (some ⟨w.heap.size, 0, none⟩) 4 4 L0 sLab _ rfl (by omega) (Nat.le_refl _) hat
  rw [if_pos e_lab, e_lab, p_lab] at k1
  have k2 := fun w2 (hb : Below (w.alloc (.cells cells 37)).heap.size (w.alloc (.cells cells 37)) w2) => below_any (some ⟨w.heap.size, 0, none⟩) 4 4 L0 sPhys w2 rfl (by omega) (Nat.le_refl _) (hat.below hb)
  rw [if_pos e_phys, e_phys, b_phys] at k2
  have k3 := fun w2 (hb : Below (w.alloc (.cells cells 37)).heap.size (w.alloc (.cells cells 37)) w2) => pathf_any (some ⟨w.heap.size, 0, none⟩) 4 4 L0 sX w2 rfl (by omega) (Nat.le_refl _) (hat.below hb)
  rw [if_neg (by rw [e_x]; omega), e_x] at k3
  have k4 := fun w2 (hb : Below (w.alloc (.cells cells 37)).heap.size (w.alloc (.cells cells 37)) w2) => limit_any (some ⟨w.heap.size, 0, none⟩) 4 4 L0 sBio 8 w2 rfl (by omega) (Nat.le_refl _) (hat.below hb)
  rw [if_pos e_bio, e_bio, l_bio] at k4
  have k5 := fun w2 (hb : Below (w.alloc (.cells cells 37)).heap.size (w.alloc (.cells cells 37)) w2) => right_any (some ⟨w.heap.size, 0 + 1 * 3, none⟩) 3 3 (L0.drop 1) w2 rfl (Nat.le_refl _) ((hat.below hb).drop 1 (by decide))
  rw [r_tail] at k5
  have k6 := fun w => name_any sA1 w
  rw [n_a1] at k6
  replace hat := hid hat
  obtain ⟨W0, hW0⟩ : ∃ W0, W0 = w.alloc (.cells cells 37) := ⟨_, rfl⟩
  rw [← hW0] at bl k1 k2 k3 k4 k5 hat
  go_enter Try.func21, Try.ntmps21
  go_wp2_with fail
  rw [← hcells, ← hW0]
  clear hcells
  refine k1.mono ?_
  rintro e w1 ⟨a1, c1, rfl, hc1, ho1, hb1⟩
  simp only [List.length_cons, List.length_nil, Nat.zero_add, Nat.reduceAdd] at ho1 hc1 ⊢
  replace ho1 := hid ho1.tat
  go_wp2_with fail
  refine (k2 _ hb1).mono ?_
  rintro e w2 ⟨a2, c2, rfl, hc2, ho2, hb2⟩
  have B2 := bnext hb1 hb2
  simp only [List.length_cons, List.length_nil, Nat.zero_add, Nat.reduceAdd] at ho2 hc2 ⊢
  replace ho2 := hid ho2.tat
  go_wp2_with fail
  refine (k3 _ B2).mono ?_
  rintro e w3 ⟨a3, c3, rfl, hc3, ho3, hb3⟩
  have B3 := bnext B2 hb3
  replace ho3 := hid ho3
  go_wp2_with fail
  refine (k4 _ B3).mono ?_
  rintro e w4 ⟨a4, c4, rfl, hc4, ho4, hb4⟩
  have B4 := bnext B3 hb4
  simp only [List.length_cons, List.length_nil, Nat.zero_add, Nat.reduceAdd] at ho4 hc4 ⊢
  obtain ⟨g4, q4, e4⟩ := ho4.dat.place (by decide)
  subst e4
  have x4 := (ho4.dat.one (i := 2) (by decide)).2.2
  replace x4 : w4.cell? ⟨g4, q4 + 2 * 3 + 2, none⟩ = some (.int .i64 8) := x4
  have D1 := ho1.out.below (bnext (bnext hb2 hb3) hb4)
  have D2 := ho2.out.below (bnext hb3 hb4)
  replace ho4 := hid ho4
  have bl5 := below_lit w4 (.cells #[.string sLab, .string sPhys, .string sAll] 9)
  have kS1 := samet_any a1 (some ⟨w4.heap.size, 0, none⟩) 3 c1 3 [sLab, sPhys, sAll] _ rfl (by omega) (D1.below bl5) (cat_lit w4 9 _ _ rfl)
  have kS2 := fun w5 (hb : Below w4.heap.size w4 w5) => samet_any a2 (some ⟨w5.heap.size, 0, none⟩) 2 c2 2 [sPhys, sLab] _ rfl (by omega) ((D2.below hb).below (below_lit w5 (.cells #[.string sPhys, .string sLab] 9))) (cat_lit w5 9 _ _ rfl)
  replace D1 := hid D1
  replace D2 := hid D2
  go_wp2_with fail
  refine kS1.mono ?_
  rintro e w5 ⟨rfl, hb5⟩
  have C5 := bnext bl5 hb5
  have bl6 := below_lit w5 (.cells #[.string sPhys, .string sLab] 9)
  go_wp2_with fail
  refine (kS2 _ C5).mono ?_
  rintro e w6 ⟨rfl, hb6⟩
  have C6 := bnext C5 (bnext bl6 hb6)
  have B6 := bnext B4 C6
  have x6 := stay C6 x4
  go_wp2_with fail
  refine (k5 _ B6).mono ?_
  rintro e w7 ⟨rfl, hb7⟩
  have B7 := bnext B6 hb7
  go_wp2_with fail
  refine (k6 _).mono ?_
  rintro e w8 ⟨rfl, hb8⟩
  have B8 := bnext bl (bnext B7 hb8)
  go_wp2
  go_ret
  exact ⟨rfl, B8⟩

end Go.Proofs.Ytbemlgkaghnggaa
