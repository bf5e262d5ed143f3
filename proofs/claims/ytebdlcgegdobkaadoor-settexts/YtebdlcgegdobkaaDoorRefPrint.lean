/- The document's digits and Print. -/
import Derived.Test.YtebdlcgegdobkaaDoorText2
import Derived.Test.YtebdlcgegdobkaaDoorRef
namespace Go.Proofs.YtebdlcgegdobkaaDoor
open Go.RowKit

set_option maxHeartbeats 400000 in
theorem digits_any (n : Nat) (hn : n < 32) (w : World) : Calls Tryd.prog 34 #[.int .i64 (n : Int)] w fun e w' => e = .returned (Str (dig n)) ∧ Below w.heap.size w w' := by
  by_cases h : n < 10
  · have hd := hid (show dig n = [UInt8.ofNat (48 + n)] by simp [dig, h])
    have hc : (#[.int .u8 (48 + (n : Int))] : Array Value) = ([UInt8.ofNat (48 + n)].map B).toArray := by
      simp [B]; omega
    obtain ⟨x, hx⟩ : ∃ x, x = UInt8.ofNat (48 + n) := ⟨_, rfl⟩
    rw [← hx] at hc hd
    have hat := at_lit w [x] _ hc
    have hcv := conv_run _ _ _ 1 1 rfl hat
    have bl := below_lit w (.cells #[.int .u8 (48 + (n : Int))] 5)
    replace hat := hid hat
    replace hc := hid hc
    replace hx := hid hx
    go_enter Tryd.func34, Tryd.ntmps34
    go_wp2
    go_ret
    rw [hd.out]
    exact ⟨rfl, bl⟩
  · have hd := hid (show dig n = [UInt8.ofNat (48 + n / 10), UInt8.ofNat (48 + n % 10)] by simp [dig, h])
    have hc : (#[.int .u8 (48 + (n : Int) / 10), .int .u8 (48 + (n : Int) % 10)] : Array Value) = ([UInt8.ofNat (48 + n / 10), UInt8.ofNat (48 + n % 10)].map B).toArray := by
      simp [B]; omega
    obtain ⟨x, hx⟩ : ∃ x, x = UInt8.ofNat (48 + n / 10) := ⟨_, rfl⟩
    obtain ⟨y, hy⟩ : ∃ y, y = UInt8.ofNat (48 + n % 10) := ⟨_, rfl⟩
    rw [← hx, ← hy] at hc hd
    have hat := at_lit w [x, y] _ hc
    have hcv := conv_run _ _ _ 2 2 rfl hat
    have bl := below_lit w (.cells #[.int .u8 (48 + (n : Int) / 10), .int .u8 (48 + (n : Int) % 10)] 5)
    replace hat := hid hat
    replace hc := hid hc
    replace hx := hid hx
    replace hy := hid hy
    go_enter Tryd.func34, Tryd.ntmps34
    go_wp2
    go_ret
    rw [hd.out]
    exact ⟨rfl, bl⟩

theorem str_size (l : List UInt8) : ∃ p : ByteArray, Str l = .string p ∧ p.toList = l ∧ p.size = l.length ∧ p = ⟨l.toArray⟩ := ⟨⟨l.toArray⟩, rfl, by rw [Lib.toList_data], rfl, rfl⟩

theorem str_ba (x y : ByteArray) (l m : List UInt8) (hx : x = ⟨l.toArray⟩) (hy : y = ⟨m.toArray⟩) : x ++ y = ⟨(l ++ m).toArray⟩ := by rw [hx, hy, str_add]

/-- All of i to j are there. -/
def Full (s i j : Nat) : Prop := ∀ k, i ≤ k → k ≤ j → s.testBit k = true

theorem full_one {s j : Nat} (h : s.testBit j = true) : Full s j j := fun k h3 h4 => by
  have e : k = j := by omega
  rw [e]; exact h

set_option maxHeartbeats 4000000 in
theorem printr_any (s : Nat) (hs : s < 4294967296) (w : World) :
    Calls Tryd.prog 22 #[.int .u32 (s : Int)] w fun e w' => e = .returned (Str (pr s)) ∧ Below w.heap.size w w' := by
  have hpr := hid (pr_outQ hs)
  go_enter Tryd.func22, Tryd.ntmps22
  go_wp2_with fail
  go_loopw [3, 4] (fun v i wr => ∃ (j : Nat) (Q : List (Nat × Nat)), j ≤ 32 ∧ Q.length ≤ j ∧ v = Str (outQ Q) ∧ i = .int .i64 (j : Int) ∧ Hid (SI s j Q) ∧ Below w.heap.size w wr) (fun _ i _ => 32 - (intOf i).toNat)
  case atStart => exact ⟨0, [], Nat.zero_le _, Nat.le_refl _, rfl, rfl, hid (SI.zero s), Below.refl _ _⟩
  case round =>
    obtain ⟨j, Q, hj, hQl, rfl, rfl, hsi, hb⟩ := hrel
    obtain ⟨O, eO, lO, szO, bO⟩ := str_size (outQ Q)
    have hOl := outQ_len Q
    by_cases hlt : j < 32
    · have kA := fun w => hasr_any s (j : Int) hs (by omega) (by omega) w
      rw [hasR_nat s j hlt] at kA
      have kB := fun w => hasr_any s ((j : Int) - 1) hs (by omega) (by omega) w
      have hB : hasR s ((j : Int) - 1) = (decide (1 ≤ j) && s.testBit (j - 1)) := by
        cases j with
        | zero => rfl
        | succ k =>
          have := hasR_nat s k (by omega)
          rw [show ((k + 1 : Nat) : Int) - 1 = (k : Int) by omega, this]
          simp
      rw [hB] at kB
      cases h1 : s.testBit j
      · have hn := hid (hsi.out.none h1)
        rw [h1] at kA
        obtain ⟨V, hV⟩ : ∃ V, V = Str (outQ Q) := ⟨_, rfl⟩
        rw [← hV]
        replace hV := hid hV
        clear eO lO szO bO
        go_wp2_with fail
        refine (kA _).mono ?_
        rintro e w1 ⟨rfl, rfl⟩
        go_wp2_with fail
        go_roundw
        case rel => exact ⟨j + 1, Q, by omega, by omega, hV.out, by go_num, hn, hb⟩
        case measure => simp [intOf]; omega
      · rw [h1] at kA
        cases h2 : (decide (1 ≤ j) && s.testBit (j - 1))
        · have hf : isFst s j = true := by unfold isFst; rw [h1, h2]; rfl
          rw [h2] at kB
          rw [eO]
          replace eO := hid eO
          replace lO := hid lO
          replace bO := hid bO
          go_wp2_with fail
          refine (kA _).mono ?_
          rintro e w1 ⟨rfl, rfl⟩
          go_wp2_with fail
          refine (kB _).mono ?_
          rintro e w2 ⟨rfl, rfl⟩
          go_wp2_with fail
          go_loopw [5] (fun v wr => ∃ l : Nat, j ≤ l ∧ l ≤ 31 ∧ v = .int .i64 (l : Int) ∧ Hid (Full s j l) ∧ wr = w2) (fun v _ => 32 - (intOf v).toNat)
          case atStart => exact ⟨j, Nat.le_refl _, by omega, rfl, hid (full_one h1), rfl⟩
          case round =>
            obtain ⟨l, hjl, hl31, rfl, hfull, rfl⟩ := hrel
            have kC := fun w => hasr_any s ((l : Int) + 1) hs (by omega) (by omega) w
            have hC : hasR s ((l : Int) + 1) = s.testBit (l + 1) := by
              by_cases h3 : l + 1 < 32
              · have := hasR_nat s (l + 1) h3
                rw [← this]; rfl
              · have : s.testBit (l + 1) = false := by
                  cases h4 : s.testBit (l + 1)
                  · rfl
                  · exact absurd (bit_lt hs h4) h3
                rw [this]
                unfold hasR
                rw [show decide ((l : Int) + 1 < 32) = false by simp; omega]; simp
            rw [hC] at kC
            replace hC := hid hC
            cases h3 : s.testBit (l + 1)
            · have hlast := hid (show IsLast s j l from ⟨hjl, hfull.out, h3⟩)
              rw [h3] at kC
              obtain ⟨D1, eD1, lD1, zD1, bD1⟩ := str_size (dig j)
              have hd1 := dig_len j
              have kd1 := fun w => digits_any j hlt w
              rw [eD1] at kd1
              have z1 : D1.size ≤ 2 := by omega
              have zO : O.size ≤ 192 := by omega
              replace eD1 := hid eD1; replace lD1 := hid lD1; replace bD1 := hid bD1; replace zD1 := hid zD1
              go_wp2_with fail
              refine (kC _).mono ?_
              rintro e w3 ⟨rfl, rfl⟩
              by_cases hlj : j = l
              · subst hlj
                have hnx := hid (hsi.out.take hf hlast.out)
                have hjs := hid (show outQ (Q ++ [(j, j)]) = _ from join_snoc Q (j, j))
                by_cases hQe : Q = []
                · have hQe' := hid hQe
                  clear hQe
                  have hem : O.toList.isEmpty = true := by rw [lO.out, hQe'.out]; rfl
                  go_wp2_with fail
                  refine (kd1 _).mono ?_
                  rintro e w4 ⟨rfl, hb4⟩
                  have d5 : decide ((j : Int) < (j : Int)) = false := by simp
                  go_wp2_with fail
                  have hval : Str (outQ (Q ++ [(j, j)])) = .string (O ++ D1) := by
                    have hx := hjs.out
                    rw [hx]
                    rw [if_pos hQe'.out, bO.out, bD1.out, str_add]
                    rw [hQe'.out]
                    simp [Str, outQ, Lib.join_nil, runT]
                  go_roundw
                  case rel => exact ⟨j + 1, Q ++ [(j, j)], by omega, by simp; omega, hval.symm, by go_num, hnx, (bnext hb hb4)⟩
                  case measure => simp [intOf]; omega
                · have hQe' := hid hQe
                  clear hQe
                  have hem : O.toList.isEmpty = false := by rw [lO.out]; have := mt (join_empty Q).1 hQe'.out; unfold outQ; cases e : Lib.join (Q.map runT) [44] with | nil => exact absurd e this | cons a b => rfl
                  go_wp2_with fail
                  refine (kd1 _).mono ?_
                  rintro e w4 ⟨rfl, hb4⟩
                  have d5 : decide ((j : Int) < (j : Int)) = false := by simp
                  go_wp2_with fail
                  have hval : Str (outQ (Q ++ [(j, j)])) = .string (O ++ ⟨#[44]⟩ ++ D1) := by
                    have hx := hjs.out
                    rw [hx]
                    rw [if_neg hQe'.out, bO.out, bD1.out]
                    show _ = Value.string ((⟨_⟩ : ByteArray) ++ ⟨[44].toArray⟩ ++ ⟨_⟩)
                    rw [str_add, str_add]
                    simp [Str, outQ, runT]
                  go_roundw
                  case rel => exact ⟨j + 1, Q ++ [(j, j)], by omega, by simp; omega, hval.symm, by go_num, hnx, (bnext hb hb4)⟩
                  case measure => simp [intOf]; omega
              · have hnx := hid (hsi.out.take hf hlast.out)
                have hjs := hid (show outQ (Q ++ [(j, l)]) = _ from join_snoc Q (j, l))
                obtain ⟨D2, eD2, lD2, zD2, bD2⟩ := str_size (dig l)
                have hd2 := dig_len l
                have kd2 := fun w => digits_any l (by omega) w
                rw [eD2] at kd2
                have z2 : D2.size ≤ 2 := by omega
                replace eD2 := hid eD2; replace lD2 := hid lD2; replace bD2 := hid bD2; replace zD2 := hid zD2
                by_cases hQe : Q = []
                · have hQe' := hid hQe
                  clear hQe
                  have hem : O.toList.isEmpty = true := by rw [lO.out, hQe'.out]; rfl
                  go_wp2_with fail
                  refine (kd1 _).mono ?_
                  rintro e w4 ⟨rfl, hb4⟩
                  have d5 : decide ((j : Int) < (l : Int)) = true := by simp; omega
                  go_wp2_with fail
                  refine (kd2 _).mono ?_
                  rintro e w5 ⟨rfl, hb5⟩
                  go_wp2_with fail
                  have hval : Str (outQ (Q ++ [(j, l)])) = .string (O ++ D1 ++ ⟨#[45]⟩ ++ D2) := by
                    have hx := hjs.out
                    rw [hx]
                    rw [if_pos hQe'.out, bO.out, bD1.out, bD2.out]
                    show _ = Value.string ((⟨_⟩ : ByteArray) ++ ⟨_⟩ ++ ⟨[45].toArray⟩ ++ ⟨_⟩)
                    rw [str_add, str_add, str_add]
                    rw [hQe'.out]
                    simp [Str, outQ, Lib.join_nil, runT, hlj]
                  go_roundw
                  case rel => exact ⟨j + 1, Q ++ [(j, l)], by omega, by simp; omega, hval.symm, by go_num, hnx, (bnext (bnext hb hb4) hb5)⟩
                  case measure => simp [intOf]; omega
                · have hQe' := hid hQe
                  clear hQe
                  have hem : O.toList.isEmpty = false := by rw [lO.out]; have := mt (join_empty Q).1 hQe'.out; unfold outQ; cases e : Lib.join (Q.map runT) [44] with | nil => exact absurd e this | cons a b => rfl
                  go_wp2_with fail
                  refine (kd1 _).mono ?_
                  rintro e w4 ⟨rfl, hb4⟩
                  have d5 : decide ((j : Int) < (l : Int)) = true := by simp; omega
                  go_wp2_with fail
                  refine (kd2 _).mono ?_
                  rintro e w5 ⟨rfl, hb5⟩
                  go_wp2_with fail
                  have hval : Str (outQ (Q ++ [(j, l)])) = .string (O ++ ⟨#[44]⟩ ++ D1 ++ ⟨#[45]⟩ ++ D2) := by
                    have hx := hjs.out
                    rw [hx]
                    rw [if_neg hQe'.out, bO.out, bD1.out, bD2.out]
                    show _ = Value.string ((⟨_⟩ : ByteArray) ++ ⟨[44].toArray⟩ ++ ⟨_⟩ ++ ⟨[45].toArray⟩ ++ ⟨_⟩)
                    rw [str_add, str_add, str_add, str_add]
                    simp [Str, outQ, runT, hlj]
                  go_roundw
                  case rel => exact ⟨j + 1, Q ++ [(j, l)], by omega, by simp; omega, hval.symm, by go_num, hnx, (bnext (bnext hb hb4) hb5)⟩
                  case measure => simp [intOf]; omega
            · have hfull2 := hid (show Full s j (l + 1) from fun k h5 h6 => by
                rcases Nat.lt_or_ge k (l + 1) with h7 | h7
                · exact hfull.out k h5 (by omega)
                · have : k = l + 1 := by omega
                  subst this; exact h3)
              have hl2 := bit_lt hs h3
              rw [h3] at kC
              go_wp2_with fail
              refine (kC _).mono ?_
              rintro e w3 ⟨rfl, rfl⟩
              go_wp2_with fail
              go_roundw
              case rel => exact ⟨l + 1, by omega, by omega, by go_num, hfull2, trivial⟩
              case measure => simp [intOf]; omega
        · have hp : Pend s j := by simp at h2; exact ⟨h2.1, h2.2, h1⟩
          have hn := hid (hsi.out.on hp)
          rw [h2] at kB
          obtain ⟨V, hV⟩ : ∃ V, V = Str (outQ Q) := ⟨_, rfl⟩
          rw [← hV]
          replace hV := hid hV
          clear eO lO szO bO
          go_wp2_with fail
          refine (kA _).mono ?_
          rintro e w1 ⟨rfl, rfl⟩
          go_wp2_with fail
          refine (kB _).mono ?_
          rintro e w2 ⟨rfl, rfl⟩
          go_wp2_with fail
          go_roundw
          case rel => exact ⟨j + 1, Q, by omega, by omega, hV.out, by go_num, hn, hb⟩
          case measure => simp [intOf]; omega
    · have hje : j = 32 := by omega
      subst hje
      have hQ := hsi.out.fin hs
      rw [eO]
      rw [hQ] at lO eO
      have hfin : Str (pr s) = if O.toList = [] then Str none4 else .string O := by
        rw [hpr.out, ← lO]
        split
        · rfl
        · rw [lO]; exact eO
      by_cases hem : O.toList = []
      · rw [if_pos hem] at hfin
        have hem2 : O.toList.isEmpty = true := by rw [hem]; rfl
        replace hfin := hid hfin
        replace lO := hid lO; replace eO := hid eO; replace bO := hid bO; replace hem := hid hem
        go_wp2
        go_ret
        rw [hfin.out]
        exact ⟨rfl, hb⟩
      · rw [if_neg hem] at hfin
        have hem2 : O.toList.isEmpty = false := by cases e : O.toList with | nil => exact absurd e hem | cons a b => rfl
        replace hfin := hid hfin
        replace lO := hid lO; replace eO := hid eO; replace bO := hid bO; replace hem := hid hem
        go_wp2
        go_ret
        rw [hfin.out]
        exact ⟨rfl, hb⟩

end Go.Proofs.YtebdlcgegdobkaaDoor
