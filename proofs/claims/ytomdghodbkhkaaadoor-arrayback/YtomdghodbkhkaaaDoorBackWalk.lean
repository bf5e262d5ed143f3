/- ArrayBack: what is printed is read back; what is read can be printed. -/
import Derived.Test.YtomdghodbkhkaaaDoorAwk
namespace Go.Proofs.YtomdghodbkhkaaaDoor
open Go.RowKit
set_option linter.unusedVariables false
set_option linter.unusedSimpArgs false

/-- What stands behind the first half. -/
theorem parse_any2 (l : List UInt8) (hl : l.length ≤ 9223372036854775807) (w : World) :
    (∃ E : Int, (E != 0) = true ∧ Calls Tryd.prog 6 #[Str l] w fun e w' => e = .returned (.tuple #[.slice none 0 0, .int .i64 E]) ∧ Below w.heap.size w w') ∨
    (∃ N, listN N ∧ Calls Tryd.prog 6 #[Str l] w fun e w' => (∃ a c, e = .returned (.tuple #[.slice a N.length c, .int .i64 0]) ∧ N.length ≤ c ∧ IOwn w' w.heap.size (.slice a N.length c) (cs N)) ∧ Below w.heap.size w w') := by
  rcases parse_good l with ⟨h1, h2⟩ | ⟨h1, h2⟩
  · right
    exact ⟨(parseP l).1, h2, parse_ok l _ (Prod.ext rfl h1) hl w⟩
  · left
    exact ⟨(parseP l).2, by simpa using h1, parse_err l _ (Prod.ext h2 rfl) h1 hl w⟩

set_option maxRecDepth 100000 in
set_option maxHeartbeats 4000000 in
/-- Behind the first half: a text is read, printed, read again. -/
theorem back_any (a : Option Addr) (k c : Nat) (L : List Int) (l : List UInt8) (w : World) (hn : L.length = k) (hl : k ≤ 4611686018427387904) (hkc : k ≤ c) (hat : IAt w a L) (hll : l.length ≤ 9223372036854775807) (ht : Tb w) :
    Calls Tryd.prog 3 #[.slice a k c, Str l] w fun e w' => e = .returned (.bool true) ∧ Below w.heap.size w w' := by
  obtain ⟨S, hS⟩ : ∃ S, S = Str l := ⟨_, rfl⟩
  have kp := print_any a k c L w hn hl hkc hat ht
  by_cases hL : ListP L
  · obtain ⟨N, hN, hlN⟩ := list_cs hL
    have hNk : N.length = k := by rw [← hn, hN, cs_len]
    have kp2 : Calls Tryd.prog 5 #[.slice a k c] w fun e w' => e = .returned (.tuple #[Str (prT N), .int .i64 0]) ∧ Below w.heap.size w w' := by
      have h := print_ok a c N w hlN (by omega) (by rw [← hN]; exact hat) ht
      rw [hNk] at h
      exact h
    have kq := fun w => parse_ok (prT N) N (parse_print hlN) (by have := prT_len hlN; omega) w
    have hatN : IAt w a (cs N) := by rw [← hN]; exact hat
    rw [hNk] at kq
    obtain ⟨P, hP⟩ : ∃ P, P = Str (prT N) := ⟨_, rfl⟩
    rw [← hP] at kp2 kq
    obtain ⟨P0, hP0⟩ : ∃ P0 : ByteArray, P = .string P0 := ⟨⟨(prT N).toArray⟩, hP⟩
    subst hP0
    replace hP := hid hP
    replace hN := hid hN
    replace hn := hid hn
    replace hNk := hid hNk
    replace hat := hid hat
    replace ht := hid ht
    replace hL := hid hL
    clear kp
    have kT := fun w => parse_any2 l hll w
    rw [← hS] at kT ⊢
    obtain ⟨S0, hS0⟩ : ∃ S0 : ByteArray, S = .string S0 := ⟨⟨l.toArray⟩, hS⟩
    subst hS0
    replace hS := hid hS
    go_enter Tryd.func3, Tryd.ntmps3
    go_wp2_with fail
    refine kp2.mono ?_
    rintro e w1 ⟨rfl, hb1⟩
    go_wp2_with fail
    refine (kq w1).mono ?_
    rintro e w2 ⟨⟨a2, c2, rfl, hc2, ho2⟩, hb2⟩
    have B2 := bnext hb1 hb2
    have ks := sameints a a2 k c c2 (cs N) w2 (by rw [cs_len]; exact hNk.out) hl (CAt.below hatN B2) ho2.iat
    replace ho2 := hid ho2
    go_wp2_with fail
    refine ks.mono ?_
    rintro e w3 ⟨rfl, hb3⟩
    have B3 := bnext B2 hb3
    have t3 := ht.out.below B3
    replace t3 := hid t3
    rcases kT w3 with ⟨E, hE, kE⟩ | ⟨M, hM, kM⟩
    · go_wp2_with fail
      refine kE.mono ?_
      rintro e w4 ⟨rfl, hb4⟩
      have kA := awake_any w4 (t3.out.below hb4)
      go_wp2_with fail
      refine kA.mono ?_
      rintro e w5 ⟨rfl, hb5⟩
      go_wp2
      go_ret
      exact ⟨rfl, bnext (bnext B3 hb4) hb5⟩
    · have hMl := hM.2.1
      go_wp2_with fail
      refine kM.mono ?_
      rintro e w4 ⟨⟨a4, c4, rfl, hc4, ho4⟩, hb4⟩
      have B4 := bnext B3 hb4
      have t4 := t3.out.below hb4
      have kp4 := print_ok a4 c4 M w4 hM hc4 ho4.iat t4
      have kq4 := fun w => parse_ok (prT M) M (parse_print hM) (by have := prT_len hM; omega) w
      obtain ⟨Q, hQ⟩ : ∃ Q, Q = Str (prT M) := ⟨_, rfl⟩
      rw [← hQ] at kp4 kq4
      obtain ⟨Q0, hQ0⟩ : ∃ Q0 : ByteArray, Q = .string Q0 := ⟨⟨(prT M).toArray⟩, hQ⟩
      subst hQ0
      replace hQ := hid hQ
      obtain ⟨n, hnM⟩ : ∃ n, n = M.length := ⟨_, rfl⟩
      rw [← hnM] at kp4 kq4 hMl hc4 ⊢
      have ho4' : w4.ownsRow w3.heap.size 3 1 (.slice a4 n c4) n ((cs M).flatMap ic) := by
        have h := ho4
        unfold IOwn at h
        rw [cs_len, ← hnM] at h
        exact h
      replace hnM := hid hnM
      replace ho4 := hid ho4
      replace t4 := hid t4
      go_wp2_with fail
      refine kp4.mono ?_
      rintro e w5 ⟨rfl, hb5⟩
      have B5 := bnext B4 hb5
      go_wp2_with fail
      refine (kq4 w5).mono ?_
      rintro e w6 ⟨⟨a6, c6, rfl, hc6, ho6⟩, hb6⟩
      have B6 := bnext B5 hb6
      have ks6 := sameints a4 a6 n c4 c6 (cs M) w6 (by rw [cs_len]; exact hnM.out.symm) (by omega) (CAt.below (owns_cat ho4') (bnext hb5 hb6)) (by
        have h := ho6.iat
        exact h)
      replace ho6 := hid ho6
      replace ho4' := hid ho4'
      go_wp2_with fail
      refine ks6.mono ?_
      rintro e w7 ⟨rfl, hb7⟩
      have B7 := bnext B6 hb7
      have kA := awake_any w7 (t4.out.below (bnext (bnext hb5 hb6) hb7))
      go_wp2_with fail
      refine kA.mono ?_
      rintro e w8 ⟨rfl, hb8⟩
      go_wp2
      go_ret
      exact ⟨rfl, bnext B7 hb8⟩
  · have kp2 : Calls Tryd.prog 5 #[.slice a k c] w fun e w' => e = .returned (.tuple #[.string ⟨#[]⟩, .int .i64 2]) ∧ Below w.heap.size w w' := by
      refine kp.mono ?_
      rintro e w' ⟨h1 | ⟨N, hN, hlN, rfl⟩, hb⟩
      · exact ⟨h1.2, hb⟩
      · exact absurd (by rw [hN]; exact cs_list hlN) hL
    replace hn := hid hn
    replace hat := hid hat
    replace ht := hid ht
    replace hL := hid hL
    clear kp
    have kT := fun w => parse_any2 l hll w
    rw [← hS] at kT ⊢
    obtain ⟨S0, hS0⟩ : ∃ S0 : ByteArray, S = .string S0 := ⟨⟨l.toArray⟩, hS⟩
    subst hS0
    replace hS := hid hS
    go_enter Tryd.func3, Tryd.ntmps3
    go_wp2_with fail
    refine kp2.mono ?_
    rintro e w3 ⟨rfl, B3⟩
    have t3 := ht.out.below B3
    replace t3 := hid t3
    rcases kT w3 with ⟨E, hE, kE⟩ | ⟨M, hM, kM⟩
    · go_wp2_with fail
      refine kE.mono ?_
      rintro e w4 ⟨rfl, hb4⟩
      have kA := awake_any w4 (t3.out.below hb4)
      go_wp2_with fail
      refine kA.mono ?_
      rintro e w5 ⟨rfl, hb5⟩
      go_wp2
      go_ret
      exact ⟨rfl, bnext (bnext B3 hb4) hb5⟩
    · have hMl := hM.2.1
      go_wp2_with fail
      refine kM.mono ?_
      rintro e w4 ⟨⟨a4, c4, rfl, hc4, ho4⟩, hb4⟩
      have B4 := bnext B3 hb4
      have t4 := t3.out.below hb4
      have kp4 := print_ok a4 c4 M w4 hM hc4 ho4.iat t4
      have kq4 := fun w => parse_ok (prT M) M (parse_print hM) (by have := prT_len hM; omega) w
      obtain ⟨Q, hQ⟩ : ∃ Q, Q = Str (prT M) := ⟨_, rfl⟩
      rw [← hQ] at kp4 kq4
      obtain ⟨Q0, hQ0⟩ : ∃ Q0 : ByteArray, Q = .string Q0 := ⟨⟨(prT M).toArray⟩, hQ⟩
      subst hQ0
      replace hQ := hid hQ
      obtain ⟨n, hnM⟩ : ∃ n, n = M.length := ⟨_, rfl⟩
      rw [← hnM] at kp4 kq4 hMl hc4 ⊢
      have ho4' : w4.ownsRow w3.heap.size 3 1 (.slice a4 n c4) n ((cs M).flatMap ic) := by
        have h := ho4
        unfold IOwn at h
        rw [cs_len, ← hnM] at h
        exact h
      replace hnM := hid hnM
      replace ho4 := hid ho4
      replace t4 := hid t4
      go_wp2_with fail
      refine kp4.mono ?_
      rintro e w5 ⟨rfl, hb5⟩
      have B5 := bnext B4 hb5
      go_wp2_with fail
      refine (kq4 w5).mono ?_
      rintro e w6 ⟨⟨a6, c6, rfl, hc6, ho6⟩, hb6⟩
      have B6 := bnext B5 hb6
      have ks6 := sameints a4 a6 n c4 c6 (cs M) w6 (by rw [cs_len]; exact hnM.out.symm) (by omega) (CAt.below (owns_cat ho4') (bnext hb5 hb6)) (by
        have h := ho6.iat
        exact h)
      replace ho6 := hid ho6
      replace ho4' := hid ho4'
      go_wp2_with fail
      refine ks6.mono ?_
      rintro e w7 ⟨rfl, hb7⟩
      have B7 := bnext B6 hb7
      have kA := awake_any w7 (t4.out.below (bnext (bnext hb5 hb6) hb7))
      go_wp2_with fail
      refine kA.mono ?_
      rintro e w8 ⟨rfl, hb8⟩
      go_wp2
      go_ret
      exact ⟨rfl, bnext B7 hb8⟩
end Go.Proofs.YtomdghodbkhkaaaDoor
