/- FieldApart answers true, whatever the fields; memory stays as it was. -/
import Derived.Test.YtkkdiciadkcmmaaAwake
namespace Go.Proofs.Ytkkdiciadkcmmaa
open Go.RowKit

theorem same_no (a1 a2 : Option Addr) (n1 n2 c1 c2 : Nat) (l1 l2 : List UInt8) (w : World) (h1 : l1.length = n1) (h2 : l2.length = n2) (at1 : At w a1 l1) (at2 : At w a2 l2) (h : l1 ≠ l2) :
    Calls Try.prog 9 #[.slice a1 n1 c1, .slice a2 n2 c2] w fun e w' => e = .returned (.bool false) ∧ w' = w := by
  have hne : ((⟨l1.toArray⟩ : ByteArray).toList == (⟨l2.toArray⟩ : ByteArray).toList) = false := text_ne (fun e => h (by have := congrArg (fun x : ByteArray => x.data.toList) e; simpa using this))
  replace h := hid h
  have k1 := conv_run w a1 l1 n1 c1 h1 at1
  have k2 := conv_run w a2 l2 n2 c2 h2 at2
  go_enter Try.func9, Try.ntmps9
  go_wp2
  go_ret
  exact ⟨ret_bool (by simp; exact h.out), rfl⟩

/-- The fields have bytes, and these fit. -/
def Ok (its : List It) : Prop := Right (fds its) ∧ (bytesOf (fds its)).length ≤ 65000

theorem put_num (a : Option Addr) (len cap : Nat) (its : List It) (w : World) (hl : its.length = len) (hat : FAt w a its) :
    Calls Try.prog 8 #[.slice a len cap] w fun e w' => ∃ v E, e = .returned (.tuple #[v, .int .i64 E]) ∧ 0 ≤ E ∧ E ≤ 3 ∧ (¬ Ok its → 0 < E) ∧ Below w.heap.size w w' := by
  by_cases h : Right (fds its)
  · refine (put_right a len cap its w hl hat h).mono ?_
    rintro e w' ⟨h1, hb⟩
    rcases h1 with ⟨h2, rfl⟩ | ⟨h2, v, rfl, ho⟩
    · exact ⟨_, 3, rfl, by omega, by omega, fun _ => by omega, hb⟩
    · exact ⟨v, 0, rfl, by omega, by omega, fun hn => absurd ⟨h, h2⟩ hn, hb⟩
  · refine (put_no a len cap its w hl hat h).mono ?_
    rintro e w' ⟨rfl, hb⟩
    exact ⟨_, 2, rfl, by omega, by omega, fun _ => by omega, hb⟩

theorem fits_of {w : World} {a : Option Addr} {its : List It} (h : FAt w a its) : ∀ f ∈ fds its, Fits f := fun f hf => by
  obtain ⟨i, hi, rfl⟩ := List.mem_map.1 hf
  exact (h.2 i hi).fit

/-- Beginnings of like length differ. -/
theorem heads_ne {fs gs : List Fd} {n : Nat} (h1 : Right fs) (f1 : ∀ f ∈ fs, Fits f) (h2 : Right gs) (f2 : ∀ f ∈ gs, Fits f) (hne : fs ≠ gs) (hn : n = (bytesOf fs).length ∨ n = (bytesOf gs).length) : (bytesOf fs).take n ≠ (bytesOf gs).take n := by
  intro e
  rcases hn with rfl | rfl
  · rw [List.take_length] at e
    have e2 : bytesOf gs = bytesOf fs ++ (bytesOf gs).drop (bytesOf fs).length := by
      conv => lhs; rw [← List.take_append_drop (bytesOf fs).length (bytesOf gs), ← e]
    exact hne (bytes_apart h2 f2 h1 f1 e2).1.symm
  · rw [List.take_length] at e
    have e2 : bytesOf fs = bytesOf gs ++ (bytesOf fs).drop (bytesOf gs).length := by
      conv => lhs; rw [← List.take_append_drop (bytesOf gs).length (bytesOf fs), e]
    exact hne (bytes_apart h1 f1 h2 f2 e2).1

set_option maxRecDepth 100000 in
set_option maxHeartbeats 4000000 in
theorem apart_any (a0 a1 : Option Addr) (len0 cap0 len1 cap1 : Nat) (s0 s1 : List It) (w : World) (h0 : s0.length = len0) (h1 : s1.length = len1) (f0 : FAt w a0 s0) (f1 : FAt w a1 s1) (hlen : len0 ≤ 9223372036854775807) (hsh : ∀ i ∈ s0, Short i) :
    Calls Try.prog 7 #[.slice a0 len0 cap0, .slice a1 len1 cap1] w fun e w' => e = .returned (.bool true) ∧ Below w.heap.size w w' := by
  by_cases hok : Ok s0 ∧ Ok s1
  · obtain ⟨⟨r0, l0⟩, ⟨r1, l1⟩⟩ := hok
    obtain ⟨n0, hn0⟩ : ∃ n, n = (bytesOf (fds s0)).length := ⟨_, rfl⟩
    obtain ⟨n1, hn1⟩ : ∃ n, n = (bytesOf (fds s1)).length := ⟨_, rfl⟩
    rw [← hn0] at l0
    rw [← hn1] at l1
    have ft0 := fits_of f0
    have ft1 := fits_of f1
    have hp0 := put_ok a0 len0 cap0 n0 s0 w h0 f0 r0 hn0.symm l0
    by_cases hsame : fds s0 = fds s1
    · have hn : n0 = n1 := by rw [hn0, hn1, hsame]
      subst hn
      replace hn0 := hid hn0
      replace hn1 := hid hn1
      replace hsame := hid hsame
      replace ft0 := hid ft0
      replace ft1 := hid ft1
      go_enter Try.func7, Try.ntmps7
      go_wp2_with fail
      refine hp0.mono ?_
      rintro e w1 ⟨x0, c0, rfl, hc0, hat0, hb1⟩
      go_wp2_with fail
      refine (put_ok a1 len1 cap1 n0 s1 w1 h1 (f1.below hb1) r1 hn1.out.symm l1).mono ?_
      rintro e w2 ⟨x1, c1, rfl, hc1, hat1, hb2⟩
      replace hat0 := hat0.below hb2
      replace hb2 := bnext hb1 hb2
      go_wp2_with fail
      refine (samefields_yes a0 a1 len0 len1 cap0 cap1 s0 s1 w2 h0 h1 hlen (f0.below hb2) (f1.below hb2) hsh hsame.out).mono ?_
      rintro e w3 ⟨rfl, hb3⟩
      replace hat0 := hat0.below hb3
      replace hat1 := hat1.below hb3
      replace hb3 := bnext hb2 hb3
      go_wp2_with fail
      refine (same_any x0 x1 n0 n0 c0 c1 _ _ w3 hn0.out.symm hn1.out.symm hat0 hat1 (by rw [hsame.out])).mono ?_
      rintro e w4 ⟨rfl, rfl⟩
      go_wp2_with fail
      refine (awake_any _).mono ?_
      rintro e w5 ⟨rfl, hb5⟩
      go_wp2
      go_ret
      exact ⟨rfl, bnext hb3 hb5⟩
    · have hS : ∀ n, (n = n0 ∨ n = n1) → n ≤ n0 → n ≤ n1 → ∀ (x0 x1 : Option Addr) (c0 c1 : Nat) (v : World), At v x0 (bytesOf (fds s0)) → At v x1 (bytesOf (fds s1)) → Calls Try.prog 9 #[.slice x0 n c0, .slice x1 n c1] v fun e w' => e = .returned (.bool false) ∧ w' = v := fun n hn hm0 hm1 x0 x1 c0 c1 v t0 t1 =>
        same_no x0 x1 n n c0 c1 _ _ v (by rw [List.length_take]; omega) (by rw [List.length_take]; omega) (t0.take n) (t1.take n) (heads_ne r0 ft0 r1 ft1 hsame (by rw [← hn0, ← hn1]; exact hn))
      replace hn0 := hid hn0
      replace hn1 := hid hn1
      replace hsame := hid hsame
      replace ft0 := hid ft0
      replace ft1 := hid ft1
      replace hS := hid hS
      go_enter Try.func7, Try.ntmps7
      go_wp2_with fail
      refine hp0.mono ?_
      rintro e w1 ⟨x0, c0, rfl, hc0, hat0, hb1⟩
      go_wp2_with fail
      refine (put_ok a1 len1 cap1 n1 s1 w1 h1 (f1.below hb1) r1 hn1.out.symm l1).mono ?_
      rintro e w2 ⟨x1, c1, rfl, hc1, hat1, hb2⟩
      replace hat0 := hat0.below hb2
      replace hb2 := bnext hb1 hb2
      go_wp2_with fail
      refine (samefields_no a0 a1 len0 len1 cap0 cap1 s0 s1 w2 h0 h1 hlen (f0.below hb2) (f1.below hb2) hsh hsame.out).mono ?_
      rintro e w3 ⟨rfl, hb3⟩
      replace hat0 := (hat0.below hb3).below (Below.refl _ _).drew
      replace hat1 := (hat1.below hb3).below (Below.refl _ _).drew
      have haw := awake_any w3.drew
      replace hb3 := (bnext hb2 hb3).drew
      clear hp0
      go_wp2_with fail
      · have hc0' : n1 ≤ c0 := by omega
        have hsn := hS.out n1 (.inr rfl) (by omega) (by omega) x0 x1 c0 c1 _ hat0 hat1
        go_region_held (fun _ : World => True) (trivial) (first
          | (go_at_call 9; refine hsn.mono ?_; rintro e w4 ⟨rfl, rfl⟩)
          | (go_at_call 13; refine haw.mono ?_; rintro e w5 ⟨rfl, hb5⟩))
        all_goals
          go_wp2
          go_ret
          exact ⟨rfl, bnext hb3 hb5⟩
      · have hc1' : n0 ≤ c1 := by omega
        have hsn := hS.out n0 (.inl rfl) (by omega) (by omega) x0 x1 c0 c1 _ hat0 hat1
        go_region_held (fun _ : World => True) (trivial) (first
          | (go_at_call 9; refine hsn.mono ?_; rintro e w4 ⟨rfl, rfl⟩)
          | (go_at_call 13; refine haw.mono ?_; rintro e w5 ⟨rfl, hb5⟩))
        all_goals
          go_wp2
          go_ret
          exact ⟨rfl, bnext hb3 hb5⟩
  · replace hok := hid hok
    go_enter Try.func7, Try.ntmps7
    go_wp2_with fail
    refine (put_num a0 len0 cap0 s0 w h0 f0).mono ?_
    rintro e w1 ⟨v0, E0, rfl, p0, q0, k0, hb1⟩
    go_wp2_with fail
    refine (put_num a1 len1 cap1 s1 w1 h1 (f1.below hb1)).mono ?_
    rintro e w2 ⟨v1, E1, rfl, p1, q1, k1, hb2⟩
    have hsum : ¬ E0 + E1 = 0 := fun e => hok.out ⟨Classical.byContradiction fun hn => by have := k0 hn; omega, Classical.byContradiction fun hn => by have := k1 hn; omega⟩
    have hs2 : (E0 + E1 != 0) = true := by rw [bne_iff_ne]; exact hsum
    replace hsum := hid hsum
    replace k0 := hid k0
    replace k1 := hid k1
    replace hb2 := bnext hb1 hb2
    go_wp2_with fail
    refine (awake_any _).mono ?_
    rintro e w3 ⟨rfl, hb3⟩
    go_wp2
    go_ret
    exact ⟨rfl, bnext hb2 hb3⟩
end Go.Proofs.Ytkkdiciadkcmmaa
