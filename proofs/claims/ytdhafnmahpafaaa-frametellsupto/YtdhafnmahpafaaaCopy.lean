/- What Copy answers, and what OverBytes and markByte do. -/
import Derived.Test.YtdhafnmahpafaaaTurn
namespace Go.Proofs.Ytdhafnmahpafaaa
open Go.RowKit

theorem copy_end {w w2 : World} {st : Option (List UInt8)} {l : List UInt8} {br : Bool} {bb : Option Addr} {cb : Nat} (hl : l = st.getD []) (hbr : br = st.isNone) (ho : Own w2 w.drew.heap.size (.slice bb l.length cb) l) (hb3 : Below w.drew.heap.size w.drew w2) :
    Rd (w2.alloc (.cells #[.bool true, .bool br, .slice bb l.length cb] 46)) w2.heap.size (.slice bb l.length cb) st ∧ (∀ k, (Value.slice bb l.length cb).ownBlock = some k → w.heap.size ≤ k) ∧ Below w.heap.size w (w2.alloc (.cells #[.bool true, .bool br, .slice bb l.length cb] 46)) ∧ w.heap.size ≤ w2.heap.size := by
  have hz : w.heap.size ≤ w2.heap.size := hb3.size
  refine ⟨⟨?_, ?_⟩, fun k hk => (ho.lt k hk).1, (undrew hb3).alloc hz _, hz⟩
  · rw [← hbr]; exact heap_alloc_new w2 _
  · rw [← hl]; exact (ho.le (Nat.zero_le _)).alloc _

set_option maxRecDepth 100000 in
set_option maxHeartbeats 1000000 in
theorem copyrd_any (p : Nat) (v : Value) (st : Option (List UInt8)) (w : World) (h : Rd w p v st) (hlen : (st.getD []).length ≤ 140737489000000) :
    Calls Try.prog 18 #[.pointer (some ⟨p, 0, none⟩)] w fun e w' => ∃ p' v', e = .returned (.pointer (some ⟨p', 0, none⟩)) ∧ w.heap.size ≤ p' ∧ Rd w' p' v' st ∧ (∀ k, v'.ownBlock = some k → w.heap.size ≤ k) ∧ Below w.heap.size w w' := by
  obtain ⟨a, cap, rfl, _, hat⟩ := h.2.form
  have h1 : w.drew.cell? ⟨p, 1, none⟩ = some (.bool st.isNone) := h.1.c1
  have h2 : w.drew.cell? ⟨p, 2, none⟩ = some (.slice a (st.getD []).length cap) := h.1.c2
  have hatd : At w.drew a (st.getD []) := hat
  have hblk := h.1
  obtain ⟨l, hl⟩ : ∃ l, l = st.getD [] := ⟨_, rfl⟩
  obtain ⟨br, hbr⟩ : ∃ br, br = st.isNone := ⟨_, rfl⟩
  rw [← hl] at h2 hatd hlen hblk
  rw [← hbr] at h1 hblk
  have hbd : Blk w.drew p br (.slice a l.length cap) := hblk
  replace hl := hid hl
  replace hbr := hid hbr
  clear hat h
  go_enter Try.func18, Try.ntmps18
  go_wp2_with fail
  refine (isone_yes p _ _ _ hblk).mono ?_
  rintro e w1 ⟨rfl, rfl⟩
  go_wp2_with fail
  go_region_with (go_at_call 32; refine (fresh_sl _ _ l.length l _ rfl hlen hatd).mono ?_; rintro e w2 ⟨bb, cb, rfl, ho, hb3⟩; have hx := hbd.below hb3; have hx1 := hx.c1; have hx2 := hx.c2)
  all_goals
    go_wp2_with fail
    go_ret
    obtain ⟨g1, g2, g3, g4⟩ := copy_end hl.out hbr.out ho hb3
    exact ⟨_, _, rfl, g4, g1, g2, g3⟩

theorem u8_ex (X : Int) (h0 : 0 ≤ X) (h1 : X < 256) : ∃ b : UInt8, Ending.returned (.int .u8 X) = .returned (.int .u8 (b.toNat : Int)) := by
  refine ⟨UInt8.ofNat X.toNat, ret_int ?_⟩
  simp only [UInt8.toNat_ofNat']
  rw [Nat.mod_eq_of_lt (by omega)]
  omega

theorem mark_any (i : Nat) (w : World) (hi : i ≤ 4611686018427387904) :
    Calls Try.prog 33 #[.int .i64 9, .int .i64 i] w fun e w' => (∃ b : UInt8, e = .returned (.int .u8 (b.toNat : Int))) ∧ w' = w := by
  go_enter Try.func33, Try.ntmps33
  go_wp2
  go_ret
  refine ⟨u8_ex _ ?_ ?_, rfl⟩
  · omega
  · omega

theorem lent_own (a : Option Addr) (cap len : Nat) (l : List UInt8) (w : World) (hl : l.length = len) (hlen : len ≤ 140737488355328) (hat : At w a l) :
    Calls Try.prog 14 #[.slice a len cap] w fun e w' => ∃ g c, e = .returned (.slice (some ⟨g, 0, none⟩) len c) ∧ len + 3 ≤ c ∧ w.heap.size ≤ g ∧ Own w' w.heap.size (.slice (some ⟨g, 0, none⟩) (len + 3) c) (l ++ [77, 78, 79]) ∧ Below w.heap.size w w' := by
  go_enter Try.func14, Try.ntmps14
  go_wp2_with fail
  refine (copy_any a cap len l _ hl hlen hat).mono ?_
  rintro e w1 ⟨v1, rfl, ho1, hb1⟩
  have hz := hb1.size
  go_wp2_with (at_builtin; refine wpList_app _ rfl (.tmp 5) (.tmp 6) rfl rfl w.heap.size v1 l [77, 78, 79] rfl (ho1.alloc _) (some ⟨w1.heap.size, 0, none⟩) 3 3 rfl rfl (at_lit w1 [77, 78, 79] _ rfl) (by omega) (by simp; omega) ?_; intro v2 w2 ho2 hb2; obtain ⟨g2, c2, hv2, hc2, hat2⟩ := ho2.form_pos (by simp); have hlx : (l ++ [77, 78, 79]).length = len + 3 := (by rw [List.length_append, hl]; rfl); rw [hlx] at hv2 hc2; subst hv2)
  go_ret
  exact ⟨g2, c2, rfl, hc2, ho2.base_le, ho2, (hb1.alloc hz _).trans hb2⟩

set_option maxRecDepth 100000 in
set_option maxHeartbeats 1000000 in
theorem over_any (g c len base : Nat) (m : List UInt8) (w : World) (hlen : len ≤ 140737488355328) (hc : len + 3 ≤ c) (hm : m.length = len + 3) (ho : Own w base (.slice (some ⟨g, 0, none⟩) (len + 3) c) m) :
    Calls Try.prog 19 #[.slice (some ⟨g, 0, none⟩) len c] w fun e w' => e = .returned (.tuple #[]) ∧ Kp (fun k => k = g) w w' := by
  go_enter Try.func19, Try.ntmps19
  go_wp2_with fail
  go_loopw [3] (fun iv wr => ∃ j : Nat, j ≤ len + 3 ∧ iv = .int .i64 j ∧ (∃ m' : List UInt8, m'.length = len + 3 ∧ Own wr base (.slice (some ⟨g, 0, none⟩) (len + 3) c) m') ∧ Kp (fun k => k = g) w wr) (fun iv _ => len + 3 - (intOf iv).toNat)
  case atStart => exact ⟨0, by omega, rfl, ⟨m, hm, ho⟩, Kp.refl _ _⟩
  case round =>
    obtain ⟨j, hj, rfl, ⟨m', hm', ho'⟩, hk⟩ := hrel
    by_cases hlt : j < len + 3
    · have hx := ho'.cellAt hm' j hlt
      have hf := ho'.free hm' j
      go_wp2_with fail
      refine (mark_any j _ (by omega)).mono ?_
      rintro e w1 ⟨⟨b, rfl⟩, rfl⟩
      replace hm' := hid hm'
      go_wp2
      go_roundw
      case rel => exact ⟨j + 1, by omega, by go_num, ⟨m'.set j b, by rw [List.length_set]; exact hm'.out, ho'.set hm'.out j b⟩, Kp.setCell (S := fun k => k = g) (p := ⟨g, j, none⟩) hk rfl _⟩
      case measure => simp [intOf]; omega
    · have hjn : j = len + 3 := by omega
      subst hjn
      go_wp2
      go_end0
      exact ⟨rfl, hk⟩
end Go.Proofs.Ytdhafnmahpafaaa
