/- NetNone. -/
import Derived.Test.YtgjjgfppolmkoaaAwake
namespace Go.Proofs.Ytgjjgfppolmkoaa
open Go.RowKit Go.Maps

theorem cat_here (w : World) (e : Nat) (cs : List Value) (vs : Array Value) (h : vs = cs.toArray) (g : Nat) (hg : w.heap.size = g) : CAt (w.alloc (.cells vs e)) (some ⟨g, 0, none⟩) cs := by
  subst hg; exact cat_lit w e cs vs h

set_option maxRecDepth 100000 in
set_option maxHeartbeats 1000000 in
theorem nnone_any (number : Int) (a : Option Addr) (len cap : Nat) (w : World) : Calls Try.prog 5 #[.int .i64 number, .slice a len cap] w fun e w' => e = .returned (.bool true) ∧ Below w.heap.size w w' := by
  have b1 := below_lit w (.cells #[.map none, .int .i64 0] 56)
  have b2 := below_lit (w.alloc (.cells #[.map none, .int .i64 0] 56)) (.cells #[.pointer none, .pointer (some ⟨w.heap.size, 0, none⟩)] 22)
  have hc : CAt ((w.alloc (.cells #[.map none, .int .i64 0] 56)).alloc (.cells #[.pointer none, .pointer (some ⟨w.heap.size, 0, none⟩)] 22)) (some ⟨w.heap.size + 1, 0, none⟩) [.pointer none, .pointer (some ⟨w.heap.size, 0, none⟩)] := cat_here _ _ _ _ rfl _ (World.size_alloc _ _)
  have hJ : NNone (w.alloc (.cells #[.map none, .int .i64 0] 56)) (.pointer (some ⟨w.heap.size, 0, none⟩)) := .inr ⟨_, rfl, by simp⟩
  have hJ2 := hJ.below b2
  have b3 := bnext b1 b2
  replace hc := hid hc
  replace hJ2 := hid hJ2
  replace b3 := hid b3
  clear hJ b1 b2
  go_enter Try.func5, Try.ntmps5
  go_wp2_with fail
  obtain ⟨G, hG⟩ : ∃ G, G = w.heap.size := ⟨_, rfl⟩
  rw [← hG] at hc hJ2
  obtain ⟨w2, hw2⟩ : ∃ w2, w2 = (w.alloc (.cells #[.map none, .int .i64 0] 56)).alloc (.cells #[.pointer none, .pointer (some ⟨G, 0, none⟩)] 22) := ⟨_, rfl⟩
  rw [← hw2] at hc hJ2
  rw [← hG, ← hw2] at b3
  rw [← hG, ← hw2]
  replace hG := hid hG
  replace hw2 := hid hw2
  go_loopw [19] (fun i wr => ∃ j : Nat, j ≤ 2 ∧ i = .int .i64 j ∧ Below w2.heap.size w2 wr) (fun i _ => 2 - (intOf i).toNat)
  case atStart => exact ⟨0, Nat.zero_le _, rfl, Below.refl _ _⟩
  case round =>
    obtain ⟨j, hj, rfl, hb⟩ := hrel
    by_cases hlt : j < 2
    · obtain ⟨bb, oo, e0, hcell⟩ := (hc.out.below hb) (by simp)
      cases e0
      obtain ⟨pv, hpv, hN⟩ : ∃ pv, wr.cell? ⟨G + 1, j, none⟩ = some (.pointer pv) ∧ NNone wr (.pointer pv) := by
        obtain rfl | rfl : j = 0 ∨ j = 1 := by omega
        · exact ⟨none, hcell 0 (by simp), .inl rfl⟩
        · exact ⟨_, hcell 1 (by simp), hJ2.out.below hb⟩
      clear hcell
      go_wp2_with fail
      refine (send_none (.pointer pv) 1 2 _ wr hN).mono ?_
      rintro e w3 ⟨rfl, rfl⟩
      go_wp2_with fail
      refine (deliver_bad (.pointer pv) number 1 _ rfl (fun w1 h1 => find_none _ number w1 (hN.below h1))).mono ?_
      rintro e w4 ⟨rfl, b4⟩
      unfold zeroV
      have bl4 := below_lit w4 (.cells #[.int .i64 0, .int .i64 0, .int .i64 0, .slice none 0 0] 31)
      have hN4 := (hN.below b4).below bl4
      have B4 := bnext hb (bnext b4 bl4)
      go_wp2_with fail
      refine (double_bad (.pointer pv) number 1 _ rfl (find_none _ number _ hN4)).mono ?_
      rintro e w5 ⟨rfl, b5⟩
      have hN5 := hN4.below b5
      have B5 := bnext B4 b5
      go_wp2_with fail
      refine (drop_bad (.pointer pv) number 1 _ rfl (find_none _ number _ hN5)).mono ?_
      rintro e w6 ⟨rfl, b6⟩
      have hN6 := hN5.below b6
      have B6 := bnext B5 b6
      go_wp2_with fail
      refine (list_none (.pointer pv) _ hN6).mono ?_
      rintro e w7 ⟨rfl, rfl⟩
      go_wp2_with fail
      refine (copy_none (.pointer pv) _ hN6).mono ?_
      rintro e w8 ⟨rfl, rfl⟩
      go_wp2_with fail
      go_roundw
      case rel => exact ⟨j + 1, by omega, by go_num, B6⟩
      case measure => simp [intOf]; omega
    · obtain rfl : j = 2 := by omega
      go_wp2_with fail
      refine (awake_any wr).mono ?_
      rintro e w3 ⟨rfl, b4⟩
      go_wp2
      go_ret
      refine ⟨rfl, ?_⟩
      have h := b3.out
      rw [hG.out] at h
      exact bnext (bnext h hb) b4
end Go.Proofs.Ytgjjgfppolmkoaa
