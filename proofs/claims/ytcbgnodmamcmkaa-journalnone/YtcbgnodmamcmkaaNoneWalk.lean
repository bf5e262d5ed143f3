/- JournalNone. -/
import Derived.Test.YtcbgnodmamcmkaaAwake
import Derived.Test.YtcbgnodmamcmkaaJnone
namespace Go.Proofs.Ytcbgnodmamcmkaa
open Go.RowKit

set_option maxRecDepth 100000 in
set_option maxHeartbeats 4000000 in
theorem jnone_any (kind : Int) (a : Option Addr) (len cap : Nat) (w : World) : Calls Try.prog 6 #[.int .u8 kind, .slice a len cap] w fun e w' => e = .returned (.bool true) ∧ Below w.heap.size w w' := by
  have b1 := below_lit w (.cells #[.pointer none, .int .i64 0, .int .i64 0, .int .i64 0, .bool false] 69)
  have hJ : JBlk (w.alloc (.cells #[.pointer none, .int .i64 0, .int .i64 0, .int .i64 0, .bool false] 69)) w.heap.size none 0 0 0 false := heap_alloc_new w _
  have b2 := below_lit (w.alloc (.cells #[.pointer none, .int .i64 0, .int .i64 0, .int .i64 0, .bool false] 69)) (.cells #[.pointer none, .pointer (some ⟨w.heap.size, 0, none⟩)] 31)
  have hc : CAt ((w.alloc (.cells #[.pointer none, .int .i64 0, .int .i64 0, .int .i64 0, .bool false] 69)).alloc (.cells #[.pointer none, .pointer (some ⟨w.heap.size, 0, none⟩)] 31)) (some ⟨w.heap.size + 1, 0, none⟩) [.pointer none, .pointer (some ⟨w.heap.size, 0, none⟩)] := cat_here _ _ _ _ _ rfl _ (World.size_alloc _ _)
  have hJ2 := hJ.below b2
  have b3 := bnext b1 b2
  replace hc := hid hc
  replace hJ2 := hid hJ2
  replace b3 := hid b3
  clear hJ b1 b2
  go_enter Try.func6, Try.ntmps6
  go_wp2_with fail
  obtain ⟨G, hG⟩ : ∃ G, G = w.heap.size := ⟨_, rfl⟩
  rw [← hG] at hc hJ2
  obtain ⟨w2, hw2⟩ : ∃ w2, w2 = (w.alloc (.cells #[.pointer none, .int .i64 0, .int .i64 0, .int .i64 0, .bool false] 69)).alloc (.cells #[.pointer none, .pointer (some ⟨G, 0, none⟩)] 31) := ⟨_, rfl⟩
  rw [← hw2] at hc hJ2
  rw [← hG, ← hw2] at b3
  rw [← hG, ← hw2]
  replace hG := hid hG
  replace hw2 := hid hw2
  go_loopw [15] (fun i wr => ∃ j : Nat, j ≤ 2 ∧ i = .int .i64 j ∧ Below w2.heap.size w2 wr) (fun i _ => 2 - (intOf i).toNat)
  case atStart => exact ⟨0, Nat.zero_le _, rfl, Below.refl _ _⟩
  case round =>
    obtain ⟨j, hj, rfl, hb⟩ := hrel
    by_cases hlt : j < 2
    · obtain ⟨bb, oo, e0, hcell⟩ := (hc.out.below hb) (by simp)
      cases e0
      obtain ⟨pv, hpv, hN⟩ : ∃ pv, wr.cell? ⟨G + 1, j, none⟩ = some (.pointer pv) ∧ JNone wr (.pointer pv) := by
        obtain rfl | rfl : j = 0 ∨ j = 1 := by omega
        · exact ⟨none, hcell 0 (by simp), .inl rfl⟩
        · exact ⟨_, hcell 1 (by simp), .inr ⟨G, 0, 0, 0, false, rfl, hJ2.out.below hb⟩⟩
      clear hcell
      go_wp2_with fail
      refine (append_none (.pointer pv) kind a len cap wr hN).mono ?_
      rintro e w3 ⟨rfl, rfl⟩
      go_wp2_with fail
      refine (sync_none (.pointer pv) _ hN).mono ?_
      rintro e w4 ⟨rfl, rfl⟩
      go_wp2_with fail
      refine (snapshot_none (.pointer pv) a len cap _ hN).mono ?_
      rintro e w5 ⟨rfl, b5⟩
      have hN5 := hN.below b5
      have hb5 := bnext hb b5
      go_wp2_with fail
      refine (last_none (.pointer pv) _ hN5).mono ?_
      rintro e w6 ⟨rfl, rfl⟩
      go_wp2_with fail
      refine (synced_none (.pointer pv) _ hN5).mono ?_
      rintro e w7 ⟨rfl, rfl⟩
      go_wp2_with fail
      refine (broken_none (.pointer pv) _ hN5).mono ?_
      rintro e w8 ⟨rfl, rfl⟩
      go_wp2_with fail
      go_roundw
      case rel => exact ⟨j + 1, by omega, by go_num, hb5⟩
      case measure => simp [intOf]; omega
    · obtain rfl : j = 2 := by omega
      go_wp2_with fail
      refine (awake_any wr).mono ?_
      rintro e w3 ⟨rfl, b4⟩
      go_wp2
      go_ret
      refine ⟨rfl, ?_⟩
      have h := b3.out
      rw [hG.out] at h
      exact bnext (bnext h hb) b4
end Go.Proofs.Ytcbgnodmamcmkaa
