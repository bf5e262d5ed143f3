/- Texts of indexes, beside the document's own. -/
import Derived.Test.YtomdghodbkhkaaaGreatDoorRps
import Derived.Test.YtomdghodbkhkaaaGreatDoorRpw
import Derived.Test.YtomdghodbkhkaaaGreatDoorAwk
namespace Go.Proofs.YtomdghodbkhkaaaGreatDoor
open Go.RowKit
set_option linter.unusedVariables false
set_option linter.unusedSimpArgs false

theorem cs_inj {A B : List Nat} (h : cs A = cs B) : A = B := by
  have := congrArg (List.map Int.toNat) h
  unfold cs at this
  rw [List.map_map, List.map_map] at this
  have hid2 : (Int.toNat ∘ Int.ofNat) = id := by funext x; rfl
  rw [hid2, List.map_id, List.map_id] at this
  exact this
theorem PTold.at {W : World} {base : Nat} {l : List UInt8} {e : Ending} (h : PTold W base (parseP l) e) : ∃ a c, e = .returned (.tuple #[.slice a (cs (parseP l).1).length c, .int .i64 (parseP l).2]) ∧ IAt W a (cs (parseP l).1) := by
  rcases h with ⟨h1, h2⟩ | ⟨h1, a, n, c, h2, h3, h4⟩
  · rcases parse_good l with h5 | h5
    · exact absurd h5.1 h1
    · rw [h5.2]; exact ⟨none, 0, h2, CAt.nil _ _⟩
  · rw [cs_len, ← h3, h1]
    exact ⟨a, c, h2, IOwn.iat h4⟩
theorem PrTold.at {L : List Int} {e : Ending} (h : PrTold L e) : ∃ S g, e = .returned (.tuple #[.string S, .int .i64 g]) ∧ ∀ e', PrTold L e' → e' = .returned (.tuple #[.string S, .int .i64 g]) := by
  rcases h with ⟨h1, rfl⟩ | ⟨N, rfl, hN, rfl⟩
  · refine ⟨_, _, rfl, fun e' h' => ?_⟩
    rcases h' with ⟨_, h2⟩ | ⟨N, rfl, hN, _⟩
    · exact h2
    · exact absurd (cs_list hN) h1
  · refine ⟨⟨(prT N).toArray⟩, 0, rfl, fun e' h' => ?_⟩
    rcases h' with ⟨h2, _⟩ | ⟨N', h2, _, rfl⟩
    · exact absurd (cs_list hN) h2
    · rw [cs_inj h2]; rfl
theorem owns_max {w : World} {base e size n c : Nat} {a : Option Addr} {xs : List Value} (h : w.ownsRow base e size (.slice a n c) n xs) : c ≤ 9223372036854775807 := by
  rcases h.2 with ⟨e, _⟩ | ⟨g, cap, cur, e, _, _, _, h2, _⟩
  · simp only [Value.slice.injEq] at e; omega
  · simp only [Value.slice.injEq] at e
    rw [e.2.2]
    unfold maxLen at h2
    omega

set_option maxRecDepth 100000 in
set_option maxHeartbeats 4000000 in
theorem texts_any (l : List UInt8) (hl : l.length ≤ 9223372036854775807) (a : Option Addr) (k c : Nat) (L : List Int) (w : World) (hn : L.length = k) (hk8 : k * 8 ≤ 140737488355328) (hkc : k ≤ c) (hcm : c ≤ 9223372036854775807) (hat : IAt w a L) (ht : Tb w) :
    Calls Tryz.prog 3 #[Str l, .slice a k c] w fun e w' => e = .returned (.bool true) ∧ Below w.heap.size w w' := by
  have k1 := copyints a k c L w hn hk8 hat
  have k2 := fun w => parse_any l hl w
  have k3 := fun w => rparse_any l hl w
  obtain ⟨Z, hZ⟩ : ∃ Z, Z = Str l := ⟨_, rfl⟩
  rw [← hZ] at k2 k3 ⊢
  have hP := fun (W : World) (base : Nat) (e : Ending) (h : PTold W base (parseP l) e) => h.at
  obtain ⟨P, hPe⟩ : ∃ P, P = parseP l := ⟨_, rfl⟩
  rw [← hPe] at k2 k3 hP
  have hPl : (cs P.1).length ≤ 32 := by
    rw [cs_len, hPe]
    rcases parse_good l with h | h
    · exact h.2.2.1
    · rw [h.2]; simp
  obtain ⟨sb, hsb⟩ : ∃ sb : ByteArray, Z = .string sb := ⟨_, hZ⟩
  subst hsb
  replace hZ := hid hZ
  replace hPe := hid hPe
  replace hP := hid hP
  replace hn := hid hn
  replace hat := hid hat
  replace ht := hid ht
  go_enter Tryz.func3, Tryz.ntmps3
  go_wp2_with fail
  refine k1.mono ?_
  rintro e w1 ⟨ra, rc, rfl, hrc, ho, hb1⟩
  have hmx : rc ≤ 9223372036854775807 := by
    unfold IOwn at ho
    rw [hn.out] at ho
    exact owns_max ho
  replace ho := hid ho
  go_wp2_with fail
  refine (k2 _).mono ?_
  rintro e w2 ⟨hp2, hb2⟩
  obtain ⟨a2, c2, rfl, at2⟩ := hP.out _ _ _ hp2
  clear hp2
  have B2 := bnext hb1 hb2
  replace at2 := hid at2
  go_wp2_with fail
  refine (k3 _).mono ?_
  rintro e w3 ⟨hp3, hb3⟩
  obtain ⟨a3, c3, rfl, at3⟩ := hP.out _ _ _ hp3
  clear hp3
  have B3 := bnext B2 hb3
  have kp := print_any ra k rc L w3 hn.out (by omega) hrc (ho.out.iat.below (bnext hb2 hb3)) (ht.out.below B3)
  replace at3 := hid at3
  go_wp2_with fail
  refine kp.mono ?_
  rintro e w4 ⟨hp4, hb4⟩
  obtain ⟨S, g, rfl, huniq⟩ := hp4.at
  have B4 := bnext B3 hb4
  have kq := rprint_any a k c L w4 hn.out (by omega) hkc hcm (hat.out.below B4)
  clear hp4 kp
  replace huniq := hid huniq
  go_wp2_with fail
  refine kq.mono ?_
  rintro e w5 ⟨hp5, hb5⟩
  obtain rfl := huniq.out _ hp5
  have B5 := bnext B4 hb5
  have at2' := at2.out.below (bnext hb3 (bnext hb4 hb5))
  have at3' := at3.out.below (bnext hb4 hb5)
  have ks := sameints a2 a3 (cs P.1).length c2 c3 (cs P.1) w5 rfl (by omega) at2' at3'
  clear hp5 kq
  have hSS : (S.toList == S.toList) = true := by simp
  have hgg : (g == g) = true := by simp
  have hPP : (P.2 == P.2) = true := by simp
  go_wp2_with fail
  refine ks.mono ?_
  rintro e w6 ⟨rfl, hb6⟩
  have B6 := bnext B5 hb6
  have kt := sameints ra a k rc c L w6 hn.out (by omega) (ho.out.iat.below (bnext hb2 (bnext hb3 (bnext hb4 (bnext hb5 hb6))))) (hat.out.below B6)
  have kw := awake_any
  clear ks
  go_wp2_with fail
  refine kt.mono ?_
  rintro e w7 ⟨rfl, hb7⟩
  have B7 := bnext B6 hb7
  have kw := awake_any w7 (ht.out.below B7)
  clear kt
  go_wp2_with fail
  refine kw.mono ?_
  rintro e w8 ⟨rfl, hb8⟩
  go_wp2_with fail
  go_ret
  exact ⟨rfl, bnext B7 hb8⟩
end Go.Proofs.YtomdghodbkhkaaaGreatDoor
