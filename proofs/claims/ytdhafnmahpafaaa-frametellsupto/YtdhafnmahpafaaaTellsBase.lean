/- SameFrames draws, and turns nothing; Put and the document's Put, told alike. -/
import Derived.Test.YtdhafnmahpafaaaRef
namespace Go.Proofs.Ytdhafnmahpafaaa
open Go.RowKit

set_option maxRecDepth 100000 in
set_option maxHeartbeats 1000000 in
theorem samef_q (a1 a2 : Option Addr) (n1 n2 c1 c2 : Nat) (s1 s2 : List It) (w : World) (h1 : s1.length = n1) (h2 : s2.length = n2) (hn : n1 ≤ 4611686018427387904) (f1 : FAt w a1 s1) (f2 : FAt w a2 s2) (h : s1.map It.fr = s2.map It.fr) :
    Calls Try.prog 21 #[.slice a1 n1 c1, .slice a2 n2 c2] w fun e w' => e = .returned (.bool true) ∧ ∃ q, w' = w.drewN q := by
  have hl : s1.length = s2.length := by have := congrArg List.length h; simpa using this
  have h12 : n1 = n2 := by omega
  subst h12
  have hel : ∀ j (hj : j < s1.length), s1[j].k = s2[j].k ∧ s1[j].body = s2[j].body := by
    intro j hj
    have : (s1.map It.fr)[j]? = (s2.map It.fr)[j]? := by rw [h]
    rw [List.getElem?_map, List.getElem?_map, List.getElem?_eq_getElem hj, List.getElem?_eq_getElem (by omega)] at this
    simpa [It.fr] using this
  replace h := hid h
  go_enter Try.func21, Try.ntmps21
  go_wp2
  go_loopw [5] (fun i wr => ∃ j : Nat, j ≤ n1 ∧ i = .int .i64 j ∧ ∃ q, wr = w.drewN q) (fun i _ => n1 - (intOf i).toNat)
  case atStart => exact ⟨0, Nat.zero_le _, rfl, 0, rfl⟩
  case round =>
    obtain ⟨j, hj, rfl, q, hq⟩ := hrel
    have hb : Below w.heap.size w wr := by rw [hq]; exact below_drewN (Below.refl _ _) q
    replace hq := hid hq
    by_cases hlt : j < n1
    · have g1 := f1.below hb
      have g2 := f2.below hb
      obtain ⟨b1, o1, rfl, hc1⟩ := g1.1 (by intro e; subst e; simp at h1; omega)
      obtain ⟨b2, o2, rfl, hc2⟩ := g2.1 (by intro e; subst e; simp at h2; omega)
      obtain ⟨x1, y1⟩ := hc1 j (by omega)
      obtain ⟨x2, y2⟩ := hc2 j (by omega)
      obtain ⟨e1, e2⟩ := hel j (by omega)
      have at1 := g1.2 s1[j] (List.getElem_mem _)
      have at2 := g2.2 s2[j] (List.getElem_mem _)
      rw [← e1] at x2
      rw [← e2] at y2 at2
      generalize s1[j].k = k at *
      generalize s1[j].body = bd at *
      generalize s1[j].a = aa at *
      generalize s1[j].c = ca at *
      generalize s2[j].a = ab at *
      generalize s2[j].c = cb at *
      have hcall : ∀ q, Calls Try.prog 16 #[.slice aa bd.length ca, .slice ab bd.length cb] (wr.drewN q) fun e w' => e = .returned (.bool true) ∧ w' = wr.drewN q := fun q => same_any aa ab bd.length bd.length ca cb bd bd (wr.drewN q) rfl rfl (at1.below (below_drewN (Below.refl _ _) _)) (at2.below (below_drewN (Below.refl _ _) _)) rfl
      clear hc1 hc2 hel at1 at2 g1 g2 f1 f2 e1 e2
      generalize bd.length = m at *
      replace h1 := hid h1
      replace h2 := hid h2
      replace hl := hid hl
      go_wp2_with fail
      go_quiet (first | (go_at_call 16; exact Calls.quiet_of_same (hcall _)))
      have hq3 : Hid (∃ q, wr.drewN nq = w.drewN q) := ⟨q + nq, by rw [hq.out, World.drewN_drewN]⟩
      clear hb hcall
      generalize wr.drewN nq = w3 at *
      go_wp2
      go_roundw
      case rel => exact ⟨j + 1, by omega, by go_num, hq3.out⟩
      case measure => simp [intOf]; omega
    · have hjn : j = n1 := by omega
      subst hjn
      go_wp2
      go_ret
      exact ⟨rfl, q, hq.out⟩

/-- What Put answers. -/
def putOf (f : Fr) : List UInt8 × Int := if 65535 < f.2.length then ([], 3) else (frameOf f, 0)

theorem put_all (k : UInt8) (len cap : Nat) (a : Option Addr) (l : List UInt8) (w : World) (hl : l.length = len) (hat : At w a l) :
    Calls Try.prog 8 #[.agg #[.int .u8 (k.toNat : Int), .slice a len cap]] w fun e w' => ∃ b n c, e = .returned (.tuple #[.slice b n c, .int .i64 (putOf (k, l)).2]) ∧ (putOf (k, l)).1.length = n ∧ At w' b (putOf (k, l)).1 ∧ Below w.heap.size w w' := by
  subst hl
  by_cases h : 65535 < l.length
  · have e0 : putOf (k, l) = ([], 3) := by unfold putOf; rw [if_pos h]
    rw [e0]
    refine (put_long k l.length cap a w h).mono ?_
    rintro e w' ⟨rfl, hb⟩
    exact ⟨none, 0, 0, rfl, rfl, at_nil _ _, hb⟩
  · have e0 : putOf (k, l) = (frameOf (k, l), 0) := by unfold putOf; rw [if_neg h]
    rw [e0]
    refine (putf_any k l.length cap a l w rfl (by omega) hat).mono ?_
    rintro e w' ⟨g, rfl, _, hr, hb⟩
    exact ⟨_, _, _, rfl, frame_len _, hr.at, hb⟩

theorem refput_all (k : UInt8) (len cap : Nat) (a : Option Addr) (l : List UInt8) (w : World) (hl : l.length = len) (hat : At w a l) :
    Calls Try.prog 15 #[.agg #[.int .u8 (k.toNat : Int), .slice a len cap]] w fun e w' => ∃ b n c, e = .returned (.tuple #[.slice b n c, .int .i64 (putOf (k, l)).2]) ∧ (putOf (k, l)).1.length = n ∧ At w' b (putOf (k, l)).1 ∧ Below w.heap.size w w' := by
  subst hl
  by_cases h : 65535 < l.length
  · have e0 : putOf (k, l) = ([], 3) := by unfold putOf; rw [if_pos h]
    rw [e0]
    refine (refput_long k l.length cap a w h).mono ?_
    rintro e w' ⟨rfl, hb⟩
    exact ⟨none, 0, 0, rfl, rfl, at_nil _ _, hb⟩
  · have e0 : putOf (k, l) = (frameOf (k, l), 0) := by unfold putOf; rw [if_neg h]
    rw [e0]
    refine (refput_any k l.length cap a l w rfl (by omega) hat).mono ?_
    rintro e w' ⟨b, c, rfl, hat', hb⟩
    exact ⟨b, _, c, rfl, frame_len _, hat', hb⟩

end Go.Proofs.Ytdhafnmahpafaaa
