/- Copies of cuts, and whether cuts are the same; the chapter's example. -/
import Derived.Test.YtlffgcnmdkgkdaaAdd
namespace Go.Proofs.Ytlffgcnmdkgkdaa
open Go.RowKit

set_option maxHeartbeats 400000 in
theorem same_any (a b : Option Addr) (n c d : Nat) (C : List Cut) (w : World) (hn : C.length = n) (hl : n ≤ 4611686018427387904) (ha : SAt w a C) (hb : SAt w b C) :
    Calls Try.prog 16 #[.slice a n c, .slice b n d] w fun e w' => e = .returned (.bool true) ∧ Below w.heap.size w w' := by
  replace hn := hid hn
  replace ha := hid ha
  replace hb := hid hb
  go_enter Try.func16, Try.ntmps16
  go_wp2_with fail
  go_loopw [5] (fun i wr => ∃ j : Nat, j ≤ n ∧ i = .int .i64 (j : Int) ∧ Below w.heap.size w wr) (fun i _ => n - (intOf i).toNat)
  case atStart => exact ⟨0, Nat.zero_le _, rfl, Below.refl _ _⟩
  case round =>
    obtain ⟨j, hj, rfl, hbw⟩ := hrel
    by_cases hlt : j < n
    · have hjL : j < C.length := by rw [hn.out]; exact hlt
      obtain ⟨b1, o1, e⟩ := ha.out.place (by omega)
      subst e
      obtain ⟨b2, o2, e⟩ := hb.out.place (by omega)
      subst e
      obtain ⟨x0, x1⟩ := (ha.out.below hbw).one hjL
      obtain ⟨y0, y1⟩ := (hb.out.below hbw).one hjL
      generalize tm C j = X at *
      generalize fr C j = Y at *
      go_wp2_with fail
      go_quiet (fail)
      have bd := below_drewN hbw nq
      generalize wr.drewN nq = wq at *
      go_wp2_with fail
      go_roundw
      case rel => exact ⟨j + 1, by omega, by go_num, bd⟩
      case measure => simp [intOf]; omega
    · have hje : j = n := by omega
      subst hje
      go_wp2
      go_ret
      exact ⟨rfl, hbw⟩

set_option maxHeartbeats 400000 in
theorem copy_any (a : Option Addr) (n c : Nat) (C : List Cut) (w : World) (hn : C.length = n) (hl : n * 16 ≤ 140737488355328) (hat : SAt w a C) :
    Calls Try.prog 7 #[.slice a n c] w fun e w' => ∃ ad k, e = .returned (.slice ad n k) ∧ SOwn w' w.heap.size (.slice ad n k) C ∧ Below w.heap.size w w' := by
  obtain ⟨i0, hi0, hz0, hz1, hz2⟩ := info_parts info36
  replace hn := hid hn
  replace hat := hid hat
  go_enter Try.func7, Try.ntmps7
  go_wp2_with fail
  go_loopw [3, 4] (fun v i wr => ∃ j : Nat, j ≤ n ∧ i = .int .i64 (j : Int) ∧ SOwn wr w.heap.size v (C.take j) ∧ Below w.heap.size w wr) (fun _ i _ => n - (intOf i).toNat)
  case atStart => exact ⟨0, Nat.zero_le _, rfl, SOwn.nil _ _, Below.refl _ _⟩
  case round =>
    obtain ⟨j, hj, rfl, hv, hb⟩ := hrel
    by_cases hlt : j < n
    · have hjL : j < C.length := by rw [hn.out]; exact hlt
      obtain ⟨b, o, e⟩ := hat.out.place (by omega)
      subst e
      obtain ⟨x0, x1⟩ := (hat.out.below hb).one hjL
      have hts : C.take (j + 1) = C.take j ++ [(tm C j, fr C j)] := by rw [take_more hjL, ← tm_eq hjL, ← fr_eq hjL]
      have htl : (C.take j).length = j := by rw [List.length_take]; omega
      generalize tm C j = X at *
      generalize fr C j = Y at *
      generalize C.take j = T at *
      replace hts := hid hts
      replace hv := hid hv
      replace htl := hid htl
      go_wp2_with (at_builtin; refine Hid.out ?_)
      have bl := below_lit wr (.cells #[.int .i64 X, .int .i64 Y] 36)
      have hv2 := hv.out.below bl
      unfold SOwn at hv2
      rw [htl.out] at hv2
      have B1 := bnext hb bl
      refine wpList_cat _ rfl (.tmp 11) (.tmp 16) 22 rfl w.heap.size 36 i0 _ 2 16 Try.underlying22 hi0 hz0 hz1 hz2 rfl (by omega) _ _ _ rfl hv2 (some ⟨wr.heap.size, 0, none⟩) 1 _ [.int .i64 X, .int .i64 Y] rfl rfl (cat_lit _ _ _ _ rfl) (two_one _ _) (by unfold maxLen; omega) (by omega) B1.size ?_
      intro v3 w3 hr3 hg3 hv3
      go_wp2_with fail
      go_roundw
      case rel =>
        refine ⟨j + 1, by omega, by go_num, ?_, ?_⟩
        · rw [hts.out]
          unfold SOwn
          rw [List.length_append, htl.out, cc_snoc]
          exact hr3
        · exact B1.grown hg3 B1.size (fun k hk => (hv2.lt k hk).1)
      case measure => simp [intOf]; omega
    · have hje : j = n := by omega
      subst hje
      have ht : C.take j = C := by rw [← hn.out, List.take_length]
      rw [ht] at hv
      obtain ⟨ad, k, rfl, _⟩ := owns_form hv
      rw [hn.out] at hv ⊢
      replace hv := hid hv
      go_wp2
      go_ret
      exact ⟨_, _, rfl, hv.out, hb⟩

def exS : List Cut := [(0, 4), (10, 1), (20, 4)]

theorem ex_flat : flatA 4 = ([(0, 4)], 0) := by decide +kernel
theorem ex_add : addA [(0, 4)] 10 20 (-3) = (exS, 0) := by decide +kernel
theorem ex_least : lsA exS 0 11 = (1, 0) := by decide +kernel
theorem ex_back : addA exS 10 20 3 = ([(0, 4)], 0) := by decide +kernel
theorem ex_over : addA exS 15 16 (-2) = ([], 120) := by decide +kernel
theorem ex_fit : ftA exS 5 10 2 = (20, 0) := by decide +kernel
theorem ex_right : rightB exS = true := by decide +kernel

theorem add_of (a : Option Addr) (n c : Nat) (C D : List Cut) (E : Int) (p q m : Int) (w : World) (h : addA C p q m = (D, E)) (hn : C.length = n) (hl : n ≤ 4611686018427387904) (hat : SAt w a C) :
    Calls Try.prog 14 #[.slice a n c, .int .i64 p, .int .i64 q, .int .i64 m] w fun e w' => ∃ ad k, e = .returned (.tuple #[.slice ad D.length k, .int .i64 E]) ∧ SOwn w' w.heap.size (.slice ad D.length k) D ∧ Below w.heap.size w w' := by
  have := add_any a n c C p q m w hn hl hat
  rw [h] at this
  exact this

set_option maxRecDepth 100000 in
set_option maxHeartbeats 800000 in
theorem awake_any (w : World) : Calls Try.prog 19 #[] w fun e w' => e = .returned (.bool true) ∧ Below w.heap.size w w' := by
  have kF := flat_any 4 w
  rw [ex_flat] at kF
  go_enter Try.func19, Try.ntmps19
  go_wp2_with fail
  refine kF.mono ?_
  rintro e w1 ⟨a1, c1, rfl, s1, B1⟩
  go_wp2_with fail
  refine (add_of a1 1 c1 [(0, 4)] exS 0 10 20 (-3) w1 ex_add rfl (by omega) s1).mono ?_
  rintro e w2 ⟨a2, c2, rfl, o2, b2⟩
  have s2 := o2.sat
  have B2 := bnext B1 b2
  have s1' := s1.below b2
  clear o2 b2 s1
  have kL := least_any a2 3 c2 exS 0 11 w2 rfl (by omega) s2
  rw [ex_least] at kL
  go_wp2_with fail
  refine kL.mono ?_
  rintro e w3 ⟨rfl, b3⟩
  have s3 := s2.below b3
  have t3 := s1'.below b3
  have B3 := bnext B2 b3
  clear s2 s1' b3 kL
  go_wp2_with fail
  refine (add_of a2 3 c2 exS [(0, 4)] 0 10 20 3 w3 ex_back rfl (by omega) s3).mono ?_
  rintro e w4 ⟨a4, c4, rfl, o4, b4⟩
  have u4 := o4.sat
  have s4 := s3.below b4
  have t4 := t3.below b4
  have B4 := bnext B3 b4
  clear s3 t3 b4 o4
  go_wp2_with fail
  refine (add_of a2 3 c2 exS [] 120 15 16 (-2) w4 ex_over rfl (by omega) s4).mono ?_
  rintro e w5 ⟨a5, c5, rfl, o5, b5⟩
  have s5 := s4.below b5
  have t5 := t4.below b5
  have u5 := u4.below b5
  have B5 := bnext B4 b5
  clear s4 t4 u4 b5 o5
  have kT := fit_any a2 3 c2 exS 5 10 2 w5 rfl (by omega) s5
  rw [ex_fit] at kT
  go_wp2_with fail
  refine kT.mono ?_
  rintro e w6 ⟨rfl, b6⟩
  have s6 := s5.below b6
  have t6 := t5.below b6
  have u6 := u5.below b6
  have B6 := bnext B5 b6
  clear s5 t5 u5 b6 kT
  have bl := below_lit w6 (.cells #[.int .i64 0, .int .i64 4, .int .i64 10, .int .i64 1, .int .i64 20, .int .i64 4] 36)
  have l7 : SAt (w6.alloc (.cells #[.int .i64 0, .int .i64 4, .int .i64 10, .int .i64 1, .int .i64 20, .int .i64 4] 36)) (some ⟨w6.heap.size, 0, none⟩) exS := cat_lit _ _ _ _ rfl
  have s7 := s6.below bl
  have t7 := t6.below bl
  have u7 := u6.below bl
  have B7 := bnext B6 bl
  go_wp2_with fail
  refine (same_any a2 (some ⟨w6.heap.size, 0, none⟩) 3 c2 3 exS _ rfl (by omega) s7 l7).mono ?_
  rintro e w8 ⟨rfl, b8⟩
  have s8 := s7.below b8
  have t8 := t7.below b8
  have u8 := u7.below b8
  have B8 := bnext B7 b8
  clear s7 t7 u7 b8 l7 bl s6 t6 u6
  go_wp2_with fail
  refine (same_any a4 a1 1 c4 c1 [(0, 4)] _ rfl (by omega) u8 t8).mono ?_
  rintro e w9 ⟨rfl, b9⟩
  have s9 := s8.below b9
  have B9 := bnext B8 b9
  clear s8 t8 u8 b9
  have kR := right_any a2 3 c2 exS w9 rfl (by omega) s9
  rw [ex_right] at kR
  go_wp2_with fail
  refine kR.mono ?_
  rintro e w10 ⟨rfl, b10⟩
  have B10 := bnext B9 b10
  go_wp2
  go_ret
  exact ⟨rfl, B10⟩

end Go.Proofs.Ytlffgcnmdkgkdaa
