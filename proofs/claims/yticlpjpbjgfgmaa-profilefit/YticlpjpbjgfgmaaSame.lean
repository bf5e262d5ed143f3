/- Copies of cuts, and whether cuts are the same; the chapter's example. -/
import Derived.Test.YticlpjpbjgfgmaaAdd
namespace Go.Proofs.Yticlpjpbjgfgmaa
open Go.RowKit

set_option maxHeartbeats 400000 in
theorem same_any (a b : Option Addr) (n c d : Nat) (C : List Cut) (w : World) (hn : C.length = n) (hl : n ≤ 4611686018427387904) (ha : SAt w a C) (hb : SAt w b C) :
    Calls Try.prog 41 #[.slice a n c, .slice b n d] w fun e w' => e = .returned (.bool true) ∧ Below w.heap.size w w' := by
  replace hn := hid hn
  replace ha := hid ha
  replace hb := hid hb
  go_enter Try.func41, Try.ntmps41
  go_wp2_with fail
  go_loopw [5] (fun i wr => ∃ j : Nat, j ≤ n ∧ i = .int .i64 (j : Int) ∧ Below w.heap.size w wr) (fun i _ => n - (intOf i).toNat)
  case atStart => exact ⟨0, Nat.zero_le _, rfl, Below.refl _ _⟩
  case round =>
    obtain ⟨j, hj, rfl, hbw⟩ := hrel
    by_cases hlt : j < n
    · have hjL : j < C.length := by rw [hn.out]; exact hlt
      obtain ⟨b1, o1, e⟩ := ha.out.place (by omega)
      subst e
      obtain ⟨b2, o2, e⟩ := hb.out.place (by omega)
      subst e
      obtain ⟨x0, x1⟩ := (ha.out.below hbw).one hjL
      obtain ⟨y0, y1⟩ := (hb.out.below hbw).one hjL
      generalize tm C j = X at *
      generalize fr C j = Y at *
      go_wp2_with fail
      go_quiet (fail)
      have bd := below_drewN hbw nq
      generalize wr.drewN nq = wq at *
      go_wp2_with fail
      go_roundw
      case rel => exact ⟨j + 1, by omega, by go_num, bd⟩
      case measure => simp [intOf]; omega
    · have hje : j = n := by omega
      subst hje
      go_wp2
      go_ret
      exact ⟨rfl, hbw⟩

set_option maxHeartbeats 400000 in
theorem copy_any (a : Option Addr) (n c : Nat) (C : List Cut) (w : World) (hn : C.length = n) (hl : n * 16 ≤ 140737488355328) (hat : SAt w a C) :
    Calls Try.prog 27 #[.slice a n c] w fun e w' => ∃ ad k, e = .returned (.slice ad n k) ∧ SOwn w' w.heap.size (.slice ad n k) C ∧ Below w.heap.size w w' := by
  obtain ⟨i0, hi0, hz0, hz1, hz2⟩ := info_parts info36
  replace hn := hid hn
  replace hat := hid hat
  go_enter Try.func27, Try.ntmps27
  go_wp2_with fail
  go_loopw [3, 4] (fun v i wr => ∃ j : Nat, j ≤ n ∧ i = .int .i64 (j : Int) ∧ SOwn wr w.heap.size v (C.take j) ∧ Below w.heap.size w wr) (fun _ i _ => n - (intOf i).toNat)
  case atStart => exact ⟨0, Nat.zero_le _, rfl, SOwn.nil _ _, Below.refl _ _⟩
  case round =>
    obtain ⟨j, hj, rfl, hv, hb⟩ := hrel
    by_cases hlt : j < n
    · have hjL : j < C.length := by rw [hn.out]; exact hlt
      obtain ⟨b, o, e⟩ := hat.out.place (by omega)
      subst e
      obtain ⟨x0, x1⟩ := (hat.out.below hb).one hjL
      have hts : C.take (j + 1) = C.take j ++ [(tm C j, fr C j)] := by rw [take_more hjL, ← tm_eq hjL, ← fr_eq hjL]
      have htl : (C.take j).length = j := by rw [List.length_take]; omega
      generalize tm C j = X at *
      generalize fr C j = Y at *
      generalize C.take j = T at *
      replace hts := hid hts
      replace hv := hid hv
      replace htl := hid htl
      go_wp2_with (at_builtin; refine Hid.out ?_)
      have bl := below_lit wr (.cells #[.int .i64 X, .int .i64 Y] 40)
      have hv2 := hv.out.below bl
      unfold SOwn at hv2
      rw [htl.out] at hv2
      have B1 := bnext hb bl
      refine wpList_cat _ rfl (.tmp 11) (.tmp 16) 38 rfl w.heap.size 40 i0 _ 2 16 Try.underlying38 hi0 hz0 hz1 hz2 rfl (by omega) _ _ _ rfl hv2 (some ⟨wr.heap.size, 0, none⟩) 1 _ [.int .i64 X, .int .i64 Y] rfl rfl (cat_lit _ _ _ _ rfl) (two_one _ _) (by unfold maxLen; omega) (by omega) B1.size ?_
      intro v3 w3 hr3 hg3 hv3
      go_wp2_with fail
      go_roundw
      case rel =>
        refine ⟨j + 1, by omega, by go_num, ?_, ?_⟩
        · rw [hts.out]
          unfold SOwn
          rw [List.length_append, htl.out, cc_snoc]
          exact hr3
        · exact B1.grown hg3 B1.size (fun k hk => (hv2.lt k hk).1)
      case measure => simp [intOf]; omega
    · have hje : j = n := by omega
      subst hje
      have ht : C.take j = C := by rw [← hn.out, List.take_length]
      rw [ht] at hv
      obtain ⟨ad, k, rfl, _⟩ := owns_form hv
      rw [hn.out] at hv ⊢
      replace hv := hid hv
      go_wp2
      go_ret
      exact ⟨_, _, rfl, hv.out, hb⟩

end Go.Proofs.Yticlpjpbjgfgmaa
