/- What OverBytes and markByte do. -/
import Derived.Test.YtgjjgfppolmkoaaRefPut
namespace Go.Proofs.Ytgjjgfppolmkoaa
open Go.RowKit Go.Maps

theorem lent_own (a : Option Addr) (cap len : Nat) (l : List UInt8) (w : World) (hl : l.length = len) (hlen : len ≤ 140737488355328) (hat : At w a l) :
    Calls Try.prog 17 #[.slice a len cap] w fun e w' => ∃ g c, e = .returned (.slice (some ⟨g, 0, none⟩) len c) ∧ len + 3 ≤ c ∧ w.heap.size ≤ g ∧ Own w' w.heap.size (.slice (some ⟨g, 0, none⟩) (len + 3) c) (l ++ [77, 78, 79]) ∧ Below w.heap.size w w' := by
  go_enter Try.func17, Try.ntmps17
  go_wp2_with fail
  refine (copy_any a cap len l _ hl hlen hat).mono ?_
  rintro e w1 ⟨v1, rfl, ho1, hb1⟩
  have hz := hb1.size
  go_wp2_with (at_builtin; refine wpList_app _ rfl (.tmp 5) (.tmp 6) rfl rfl w.heap.size v1 l [77, 78, 79] rfl (ho1.alloc _) (some ⟨w1.heap.size, 0, none⟩) 3 3 rfl rfl (at_lit w1 [77, 78, 79] _ rfl) (by omega) (by simp; omega) ?_; intro v2 w2 ho2 hb2; obtain ⟨g2, c2, hv2, hc2, hat2⟩ := ho2.form_pos (by simp); have hlx : (l ++ [77, 78, 79]).length = len + 3 := (by rw [List.length_append, hl]; rfl); rw [hlx] at hv2 hc2; subst hv2)
  go_ret
  exact ⟨g2, c2, rfl, hc2, (ho2.lt g2 rfl).1, ho2, (hb1.alloc hz _).trans hb2⟩

set_option maxRecDepth 100000 in
set_option maxHeartbeats 1000000 in
theorem over_any (g c len base : Nat) (m : List UInt8) (w : World) (hlen : len ≤ 140737488355328) (hc : len + 3 ≤ c) (hm : m.length = len + 3) (ho : Own w base (.slice (some ⟨g, 0, none⟩) (len + 3) c) m) :
    Calls Try.prog 19 #[.slice (some ⟨g, 0, none⟩) len c] w fun e w' => e = .returned (.tuple #[]) ∧ Kp (fun k => k = g) w w' := by
  go_enter Try.func19, Try.ntmps19
  go_wp2_with fail
  go_loopw [3] (fun iv wr => ∃ j : Nat, j ≤ len + 3 ∧ iv = .int .i64 j ∧ (∃ m' : List UInt8, m'.length = len + 3 ∧ Own wr base (.slice (some ⟨g, 0, none⟩) (len + 3) c) m') ∧ Kp (fun k => k = g) w wr) (fun iv _ => len + 3 - (intOf iv).toNat)
  case atStart => exact ⟨0, by omega, rfl, ⟨m, hm, ho⟩, Kp.refl _ _⟩
  case round =>
    obtain ⟨j, hj, rfl, ⟨m', hm', ho'⟩, hk⟩ := hrel
    by_cases hlt : j < len + 3
    · have hx := ho'.cellAt hm' j hlt
      have hf := ho'.free hm' j
      go_wp2_with fail
      refine (mark_any 9 j _ (by omega) (by omega)).mono ?_
      rintro e w1 ⟨rfl, rfl⟩
      replace hm' := hid hm'
      go_wp2
      go_roundw
      case rel => exact ⟨j + 1, by omega, by go_num, ⟨m'.set j (mkB 9 j), by rw [List.length_set]; exact hm'.out, ho'.set hm'.out j (mkB 9 j)⟩, Kp.setCell (S := fun k => k = g) (p := ⟨g, j, none⟩) hk rfl _⟩
      case measure => simp [intOf]; omega
    · have hjn : j = len + 3 := by omega
      subst hjn
      go_wp2
      go_end0
      exact ⟨rfl, hk⟩
end Go.Proofs.Ytgjjgfppolmkoaa
