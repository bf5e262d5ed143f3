/- What is wrong with a list of dependencies: the document's side. -/
import Derived.Test.YtphkdjacladcpaaDq
namespace Go.Proofs.Ytphkdjacladcpaa
open Go.RowKit
set_option linter.unusedVariables false
set_option linter.unusedSimpArgs false

theorem twice_yes {D : List Dp} {i m : Nat} (hm : m < i) (hi : i < D.length) (h : dpAt D m = dpAt D i) : twiceB D i = true := by
  unfold twiceB
  have e : dpAt (D.take i) m = dpAt D m := by
    have h1 : m < (D.take i).length := by rw [List.length_take]; omega
    rw [← dpAt_eq h1, ← dpAt_eq (by omega), List.getElem_take]
  exact any_yes (m := m) (by rw [List.length_take]; omega) (by rw [e, h]; simp [isD])
theorem twice_no {D : List Dp} {i : Nat} (hi : i < D.length) (h : ∀ m, m < i → ¬ dpAt D m = dpAt D i) : twiceB D i = false := by
  unfold twiceB
  refine any_no fun m hm => ?_
  rw [List.length_take] at hm
  have e : dpAt (D.take i) m = dpAt D m := by
    have h1 : m < (D.take i).length := by rw [List.length_take]; omega
    rw [← dpAt_eq h1, ← dpAt_eq (by omega), List.getElem_take]
  rw [e]
  have := h m (by omega)
  simpa [isD] using this

set_option maxRecDepth 100000 in
set_option maxHeartbeats 2000000 in
theorem rright_any (a : Option Addr) (k c : Nat) (D : List Dp) (next : Int) (w : World) (hn : D.length = k) (hl : k ≤ 4611686018427387904) (hat : DAt w a D) :
    Calls Try.prog 10 #[.slice a k c, .int .i64 next] w fun e w' => (∃ E : Int, e = .returned (.int .i64 E) ∧ RT D next E) ∧ Below w.heap.size w w' := by
  replace hn := hid hn
  replace hat := hid hat
  go_enter Try.func10, Try.ntmps10
  by_cases h4 : 4 < k
  · have d4 : (4 : Int) < (k : Int) := by omega
    go_wp2_with fail
    go_ret
    exact ⟨⟨3, rfl, .inl ⟨by rw [hn.out]; exact h4, rfl⟩⟩, Below.refl _ _⟩
  have d4 : ¬ (4 : Int) < (k : Int) := by omega
  go_wp2_with fail
  go_loopw [5] (fun i wr => ∃ j : Nat, j ≤ k ∧ i = .int .i64 (j : Int) ∧ Hid (∀ m, m < j → errAt D next m = 0) ∧ Below w.heap.size w wr) (fun i _ => k - (intOf i).toNat)
  case atStart => exact ⟨0, Nat.zero_le _, rfl, hid (fun i h => by omega), Below.refl _ _⟩
  case round =>
    obtain ⟨j, hj, rfl, hok, hb⟩ := hrel
    by_cases hlt : j < k
    · have hjL : j < D.length := by rw [hn.out]; exact hlt
      obtain ⟨b, o, e⟩ := hat.out.place (by omega)
      subst e
      have hcj := DAt.range (hat.out.below hb) hjL
      have x0 := hcj 0 _ rfl
      have x1 := hcj 1 _ rfl
      have hxx := hid (fun (E : Int) (he : errAt D next j = E) (h0 : E ≠ 0) => RT.at (D := D) (by rw [hn.out]; omega) hjL he h0 hok.out)
      have hnx : errAt D next j = 0 → ∀ m, m < j + 1 → errAt D next m = 0 := fun h m hm => by
        rcases Nat.lt_or_ge m j with h1 | h1
        · exact hok.out m h1
        · obtain rfl : m = j := by omega
          exact h
      have hea := hid (fun h => err_arg (D := D) (next := next) (i := j) h)
      have hes := hid (fun h => err_self (D := D) (next := next) (i := j) h)
      have het := hid (fun h => err_twice (D := D) (next := next) (i := j) h)
      replace hnx := hid hnx
      obtain ⟨X, hX⟩ : ∃ X, X = dpAt D j := ⟨_, rfl⟩
      rw [← hX] at x0 x1 hea hes het
      obtain ⟨K, I⟩ := X
      have hkd : kindB K = (decide (1 ≤ K) && decide (K ≤ 3)) := rfl
      replace hkd := hid hkd
      replace hX := hid hX
      replace x0 : wr.cell? ⟨b, o + j * 2, none⟩ = some (.int .u8 K) := x0
      replace x1 : wr.cell? ⟨b, o + j * 2 + 1, none⟩ = some (.int .i64 I) := x1
      clear hcj
      by_cases h1 : K < 1
      · have hx2 := hid (hxx.out 2 (hea.out (.inl (by rw [hkd.out]; simp; omega))) (by decide))
        clear hea hes het hxx hnx
        go_wp2_with fail
        go_ret
        exact ⟨⟨2, rfl, hx2.out⟩, hb⟩
      by_cases h2 : 3 < K
      · have hx2 := hid (hxx.out 2 (hea.out (.inl (by rw [hkd.out]; simp; omega))) (by decide))
        clear hea hes het hxx hnx
        go_wp2_with fail
        go_ret
        exact ⟨⟨2, rfl, hx2.out⟩, hb⟩
      have hA : kindB K = true := by rw [hkd.out]; simp; omega
      by_cases h3 : I < 1
      · have hx2 := hid (hxx.out 2 (hea.out (.inr h3)) (by decide))
        clear hea hes het hxx hnx
        go_wp2_with fail
        go_ret
        exact ⟨⟨2, rfl, hx2.out⟩, hb⟩
      by_cases h5 : next ≤ I
      · have hx2 := hid (hxx.out 200 (hes.out hA h3 h5) (by decide))
        clear hea hes het hxx hnx
        go_wp2_with fail
        go_ret
        exact ⟨⟨200, rfl, hx2.out⟩, hb⟩
      have he2 := het.out hA h3 h5
      have hz2 : twiceB D j = true → RT D next 140 := fun h => hxx.out 140 (by rw [he2, if_pos h]) (by decide)
      have hn2 : twiceB D j = false → ∀ m, m < j + 1 → errAt D next m = 0 := fun h => hnx.out (by rw [he2, h, if_neg (by decide)])
      have hz3 := hid (fun m (hm : m < j) h => hz2 (twice_yes hm hjL h))
      have hn3 := hid (fun h => hn2 (twice_no hjL h))
      rw [← hX.out] at hz3 hn3
      clear he2 hea hes het hxx hnx hz2 hn2
      go_wp2_with fail
      go_loopw [6] (fun i w2 => ∃ m : Nat, m ≤ j ∧ i = .int .i64 (m : Int) ∧ Hid (∀ q, q < m → ¬ dpAt D q = (K, I)) ∧ Below wr.heap.size wr w2) (fun i _ => j - (intOf i).toNat)
      case atStart => exact ⟨0, Nat.zero_le _, rfl, hid (fun i h => by omega), Below.refl _ _⟩
      case round =>
        obtain ⟨m, hm, rfl, hok2, hb2⟩ := hrel
        have B2 := bnext hb hb2
        by_cases hlt2 : m < j
        · have hmk : m < k := by omega
          have hmL : m < D.length := by rw [hn.out]; exact hmk
          have hcm := DAt.range (hat.out.below B2) hmL
          have y0 := hcm 0 _ rfl
          have y1 := hcm 1 _ rfl
          have z0 := stay hb2 x0
          have z1 := stay hb2 x1
          have hz4 : dpAt D m = (K, I) → RT D next 140 := fun h => hz3.out m hlt2 h
          have hn4 : ¬ dpAt D m = (K, I) → ∀ q, q < m + 1 → ¬ dpAt D q = (K, I) := fun h q hq => by
            rcases Nat.lt_or_ge q m with h1 | h1
            · exact hok2.out q h1
            · obtain rfl : q = m := by omega
              exact h
          generalize dpAt D m = Y at *
          obtain ⟨Y0, Y1⟩ := Y
          replace y0 : wr.cell? ⟨b, o + m * 2, none⟩ = some (.int .u8 Y0) := y0
          replace y1 : wr.cell? ⟨b, o + m * 2 + 1, none⟩ = some (.int .i64 Y1) := y1
          clear hcm
          by_cases hK : Y0 = K
          · by_cases hI : Y1 = I
            · subst hK hI
              have hx2 := hid (hz4 rfl)
              clear hz4 hn4
              go_wp2_with fail
              go_quiet (fail)
              go_wp2_with fail
              go_ret
              exact ⟨⟨140, rfl, hx2.out⟩, below_drewN B2 _⟩
            · subst hK
              have hnx2 := hid (hn4 (by simpa using hI))
              have dI : (Y1 == I) = false := by simpa using hI
              clear hz4 hn4
              go_wp2_with fail
              go_quiet (fail)
              go_wp2_with fail
              go_roundw
              case rel => exact ⟨m + 1, by omega, by go_num, hnx2, below_drewN hb2 _⟩
              case measure => simp [intOf]; omega
          · have hnx2 := hid (hn4 (by simp; exact fun h => absurd h hK))
            have dK : (Y0 == K) = false := by simpa using hK
            clear hz4 hn4
            go_wp2_with fail
            go_quiet (fail)
            go_wp2_with fail
            go_roundw
            case rel => exact ⟨m + 1, by omega, by go_num, hnx2, below_drewN hb2 _⟩
            case measure => simp [intOf]; omega
        · have hme : m = j := by omega
          subst hme
          have hn5 := hid (hn3.out hok2.out)
          go_wp2_with fail
          go_roundw
          case rel => exact ⟨m + 1, by omega, by go_num, hn5, B2⟩
          case measure => simp [intOf]; omega
    · have hje : j = k := by omega
      subst hje
      go_wp2
      go_ret
      exact ⟨⟨0, rfl, .inr ⟨by rw [hn.out]; omega, .inl ⟨rfl, fun m hm => hok.out m (by rw [← hn.out]; exact hm)⟩⟩⟩, hb⟩

end Go.Proofs.Ytphkdjacladcpaa
