/- The document's Within and First; copies of numbers, and whether they are the same. -/
import Derived.Test.YtebdlcgegdobkaaDoorRef
import Derived.Test.YtebdlcgegdobkaaDoorBackWalk
namespace Go.Proofs.YtebdlcgegdobkaaDoor
open Go.RowKit

/-- b has all of a's nodes below k. -/
def InTo (a b k : Nat) : Prop := ∀ i, i < k → a.testBit i = true → b.testBit i = true

theorem in_all {a b : Nat} (ha : a < 4294967296) (hb : b < 4294967296) : (a &&& (4294967295 - b) = 0) ↔ InTo a b 32 := by
  constructor
  · intro h i hi h1
    have := congrArg (fun x => x.testBit i) h
    simp only [Nat.testBit_and, bit_not b hb i hi, Nat.zero_testBit, h1, Bool.true_and] at this
    simpa using this
  · intro h
    refine ext32 (Nat.lt_of_le_of_lt Nat.and_le_left ha) (by omega) fun i hi => ?_
    rw [Nat.testBit_and, bit_not b hb i hi, Nat.zero_testBit]
    cases h1 : a.testBit i
    · rfl
    · rw [h i hi h1]; rfl

set_option maxHeartbeats 400000 in
theorem withinr_any (a b : Nat) (ha : a < 4294967296) (hb : b < 4294967296) (w : World) :
    Calls Tryd.prog 15 #[.int .u32 (a : Int), .int .u32 (b : Int)] w fun e w' => e = .returned (.bool (decide (a &&& (4294967295 - b) = 0))) ∧ w' = w := by
  have hall := hid (in_all ha hb)
  go_enter Tryd.func15, Tryd.ntmps15
  go_wp2_with fail
  go_loopw [5] (fun i wr => ∃ j : Nat, j ≤ 32 ∧ i = .int .i64 (j : Int) ∧ Hid (InTo a b j) ∧ wr = w) (fun i _ => 32 - (intOf i).toNat)
  case atStart => exact ⟨0, Nat.zero_le _, rfl, hid (fun i hi => absurd hi (by omega)), rfl⟩
  case round =>
    obtain ⟨j, hj, rfl, hin, rfl⟩ := hrel
    by_cases hlt : j < 32
    · have kA := fun w => hasr_any a (j : Int) ha (by omega) (by omega) w
      rw [hasR_nat a j hlt] at kA
      have kB := fun w => hasr_any b (j : Int) hb (by omega) (by omega) w
      rw [hasR_nat b j hlt] at kB
      cases h1 : a.testBit j
      · have hin2 := hid (show InTo a b (j + 1) from fun i hi h => by
          rcases Nat.lt_or_ge i j with h3 | h3
          · exact hin.out i h3 h
          · have : i = j := by omega
            subst this; rw [h1] at h; cases h)
        rw [h1] at kA
        go_wp2_with fail
        refine (kA _).mono ?_
        rintro e w1 ⟨rfl, rfl⟩
        go_wp2_with fail
        go_roundw
        case rel => exact ⟨j + 1, by omega, by go_num, hin2, trivial⟩
        case measure => simp [intOf]; omega
      · rw [h1] at kA
        cases h2 : b.testBit j
        · have hf := hid (show decide (a &&& (4294967295 - b) = 0) = false by
            simp
            intro h
            have := hall.out.1 h j hlt h1
            rw [h2] at this; cases this)
          rw [h2] at kB
          go_wp2_with fail
          refine (kA _).mono ?_
          rintro e w1 ⟨rfl, rfl⟩
          go_wp2_with fail
          refine (kB _).mono ?_
          rintro e w2 ⟨rfl, rfl⟩
          go_wp2
          go_ret
          rw [hf.out]
          exact ⟨rfl, rfl⟩
        · have hin2 := hid (show InTo a b (j + 1) from fun i hi h => by
            rcases Nat.lt_or_ge i j with h3 | h3
            · exact hin.out i h3 h
            · have : i = j := by omega
              subst this; exact h2)
          rw [h2] at kB
          go_wp2_with fail
          refine (kA _).mono ?_
          rintro e w1 ⟨rfl, rfl⟩
          go_wp2_with fail
          refine (kB _).mono ?_
          rintro e w2 ⟨rfl, rfl⟩
          go_wp2_with fail
          go_roundw
          case rel => exact ⟨j + 1, by omega, by go_num, hin2, trivial⟩
          case measure => simp [intOf]; omega
    · have hje : j = 32 := by omega
      subst hje
      have hf := hid (show decide (a &&& (4294967295 - b) = 0) = true by simpa using hall.out.2 hin.out)
      go_wp2
      go_ret
      rw [hf.out]
      exact ⟨rfl, rfl⟩

theorem of_take {s m : Nat} : ofP (L2 ((lst s).take m)) = (lowk s m 32, 0) := by
  have h1 : OkTo (L2 ((lst s).take m)) (L2 ((lst s).take m)).length := by
    intro n hn
    rw [List.take_length] at hn
    obtain ⟨x, hx, rfl⟩ := List.mem_map.1 hn
    have := (mem_lst.1 (List.take_subset _ _ hx)).1
    constructor
    · exact Int.natCast_nonneg x
    · show (x : Int) < 32; omega
  rw [ofP_ok h1]
  have h2 : (L2 ((lst s).take m)).map Int.toNat = (lst s).take m := by
    unfold L2
    rw [List.map_map]
    conv => rhs; rw [← List.map_id ((lst s).take m)]
    apply List.map_congr_left
    intro x _
    rfl
  rw [h2]
  rfl

theorem cat_take {w : World} {a : Option Addr} {Z : List Int} (h : CAt w a (Z.map I)) (k : Nat) : CAt w a ((Z.take k).map I) := by
  intro hne
  obtain ⟨b, o, e, hc⟩ := h (by intro e; apply hne; simp at e; simp [e])
  refine ⟨b, o, e, fun i hi => ?_⟩
  have hi2 : i < (Z.map I).length := by simp at hi ⊢; omega
  rw [hc i hi2]
  simp

set_option maxHeartbeats 800000 in
theorem firstr_any (s : Nat) (n : Int) (hs : s < 4294967296) (w : World) :
    Calls Tryd.prog 17 #[.int .u32 (s : Int), .int .i64 n] w fun e w' => e = .returned (.tuple #[.int .u32 ((firstP s n).1 : Int), .bool (firstP s n).2]) ∧ Below w.heap.size w w' := by
  have hc := cnt_le s
  have hlen : (L2 (lst s)).length = cnt s := by simp [L2, cnt]
  by_cases h1 : n < 0
  · have hf := hid (show firstP s n = (0, false) by unfold firstP; rw [if_pos (.inl h1)])
    have d1 : decide (n < 0) = true := by simpa using h1
    go_enter Tryd.func17, Tryd.ntmps17
    go_wp2_with fail
    refine (listr_any s hs _).mono ?_
    rintro e w1 ⟨v, rfl, ho, hb1⟩
    obtain ⟨a1, c1, rfl, hc1⟩ := owns_form ho
    go_wp2
    go_ret2
    rw [hf.out]
    exact ⟨rfl, hb1⟩
  · have d1 : decide (n < 0) = false := by simpa using h1
    by_cases h2 : (cnt s : Int) < n
    · have hf := hid (show firstP s n = (0, false) by unfold firstP; rw [if_pos (.inr h2)])
      have d2 : decide ((cnt s : Int) < n) = true := by simpa using h2
      go_enter Tryd.func17, Tryd.ntmps17
      go_wp2_with fail
      refine (listr_any s hs _).mono ?_
      rintro e w1 ⟨v, rfl, ho, hb1⟩
      obtain ⟨a1, c1, rfl, hc1⟩ := owns_form ho
      rw [hlen]
      go_wp2
      go_ret2
      rw [hf.out]
      exact ⟨rfl, hb1⟩
    · obtain ⟨m, rfl⟩ : ∃ m : Nat, n = (m : Int) := ⟨n.toNat, by omega⟩
      have hf := hid (show firstP s (m : Int) = (lowk s m 32, true) by unfold firstP; rw [if_neg (by omega), Int.toNat_natCast])
      have d2 : decide (cnt s < m) = false := by simp; omega
      have hmc : m ≤ cnt s := by omega
      go_enter Tryd.func17, Tryd.ntmps17
      go_wp2_with fail
      refine (listr_any s hs _).mono ?_
      rintro e w1 ⟨v, rfl, ho, hb1⟩
      obtain ⟨a1, c1, rfl, hc1⟩ := owns_form ho
      have hat := cat_take (owns_cat ho) m
      have hlm : ((L2 (lst s)).take m).length = m := by rw [List.length_take, hlen]; omega
      have e2 : (L2 (lst s)).take m = L2 ((lst s).take m) := by simp [L2, List.map_take]
      rw [e2] at hat hlm
      have kof := fun c => ofr_any a1 m c _ w1 hlm (by omega) hat
      rw [of_take] at kof
      rw [hlen] at ho hc1 ⊢
      replace ho := hid ho
      replace hat := hid hat
      clear e2 hlm
      have hmc1 : m ≤ c1 := by omega
      generalize cnt s = C at *
      go_wp2_with fail
      refine (kof _).mono ?_
      rintro e w2 ⟨rfl, rfl⟩
      go_wp2
      go_ret2
      rw [hf.out]
      exact ⟨rfl, hb1⟩

set_option maxHeartbeats 400000 in
theorem copyints_any (a : Option Addr) (n c : Nat) (Z : List Int) (w : World) (hn : Z.length = n) (hl : n * 8 ≤ 140737488355328) (hat : CAt w a (Z.map I)) :
    Calls Tryd.prog 7 #[.slice a n c] w fun e w' => ∃ v, e = .returned v ∧ NOwn w' w.heap.size v Z ∧ Below w.heap.size w w' := by
  obtain ⟨i0, hi0, hz0, hz1, hz2⟩ := info_parts info3
  replace hn := hid hn
  replace hat := hid hat
  go_enter Tryd.func7, Tryd.ntmps7
  go_wp2_with fail
  go_loopw [3, 4] (fun v i wr => ∃ j : Nat, j ≤ n ∧ i = .int .i64 (j : Int) ∧ NOwn wr w.heap.size v (Z.take j) ∧ Below w.heap.size w wr) (fun _ i _ => n - (intOf i).toNat)
  case atStart => exact ⟨0, Nat.zero_le _, rfl, by unfold NOwn; exact World.ownsRow_nil _ _ _ _, Below.refl _ _⟩
  case round =>
    obtain ⟨j, hj, rfl, hv, hb⟩ := hrel
    by_cases hlt : j < n
    · have hjL : j < Z.length := by rw [hn.out]; exact hlt
      obtain ⟨b, o, e⟩ := iat_place hat.out (by intro e; rw [e] at hjL; simp at hjL)
      subst e
      have x0 := iat_cell (hat.out.below hb) j hjL
      have hts : Z.take (j + 1) = Z.take j ++ [Z[j]] := by rw [List.take_add_one, List.getElem?_eq_getElem hjL]; rfl
      have htl : (Z.take j).length = j := by rw [List.length_take]; omega
      generalize Z[j] = X at *
      generalize Z.take j = T at *
      replace hts := hid hts
      replace hv := hid hv
      replace htl := hid htl
      go_wp2_with (at_builtin; refine Hid.out ?_)
      have bl := below_lit wr (.cells #[.int .i64 X] 3)
      have hv2 := owns_below hv.out bl
      rw [htl.out] at hv2
      have B1 := bnext hb bl
      refine wpList_cat _ rfl (.tmp 11) (.tmp 16) 22 rfl w.heap.size 3 i0 _ 1 8 Tryd.underlying22 hi0 hz0 hz1 hz2 rfl (by omega) _ _ _ rfl hv2 (some ⟨wr.heap.size, 0, none⟩) 1 _ [.int .i64 X] rfl rfl (cat_lit _ _ _ _ rfl) (int_one _) (by unfold maxLen; omega) (by omega) B1.size ?_
      intro v3 w3 hr3 hg3 hv3
      go_wp2_with fail
      go_roundw
      case rel =>
        refine ⟨j + 1, by omega, by go_num, ?_, ?_⟩
        · rw [hts.out]
          unfold NOwn
          rw [List.length_append, htl.out]
          simpa [I] using hr3
        · exact B1.grown hg3 B1.size (fun k hk => (hv2.lt k hk).1)
      case measure => simp [intOf]; omega
    · have hje : j = n := by omega
      subst hje
      have ht : Z.take j = Z := by rw [← hn.out, List.take_length]
      rw [ht] at hv
      replace hv := hid hv
      go_wp2
      go_ret
      exact ⟨_, rfl, hv.out, hb⟩

set_option maxHeartbeats 400000 in
theorem sameints_any (a b : Option Addr) (n c d : Nat) (Z : List Int) (w : World) (hn : Z.length = n) (hl : n ≤ 4611686018427387904) (ha : CAt w a (Z.map I)) (hb : CAt w b (Z.map I)) :
    Calls Tryd.prog 10 #[.slice a n c, .slice b n d] w fun e w' => e = .returned (.bool true) ∧ Below w.heap.size w w' := by
  replace hn := hid hn
  replace ha := hid ha
  replace hb := hid hb
  go_enter Tryd.func10, Tryd.ntmps10
  go_wp2_with fail
  go_loopw [5] (fun i wr => ∃ j : Nat, j ≤ n ∧ i = .int .i64 (j : Int) ∧ Below w.heap.size w wr) (fun i _ => n - (intOf i).toNat)
  case atStart => exact ⟨0, Nat.zero_le _, rfl, Below.refl _ _⟩
  case round =>
    obtain ⟨j, hj, rfl, hbw⟩ := hrel
    by_cases hlt : j < n
    · have hjL : j < Z.length := by rw [hn.out]; exact hlt
      obtain ⟨b1, o1, e⟩ := iat_place ha.out (by intro e; rw [e] at hjL; simp at hjL)
      subst e
      obtain ⟨b2, o2, e⟩ := iat_place hb.out (by intro e; rw [e] at hjL; simp at hjL)
      subst e
      have x0 := iat_cell (ha.out.below hbw) j hjL
      have y0 := iat_cell (hb.out.below hbw) j hjL
      generalize Z[j] = X at *
      go_wp2_with fail
      go_quiet (fail)
      have bd : Below w.heap.size w (wr.drewN nq) := hbw.trans ⟨rfl, rfl, rfl, Nat.le_refl _, fun _ _ => rfl⟩
      generalize wr.drewN nq = wq at *
      go_wp2_with fail
      go_roundw
      case rel => exact ⟨j + 1, by omega, by go_num, bd⟩
      case measure => simp [intOf]; omega
    · have hje : j = n := by omega
      subst hje
      go_wp2
      go_ret
      exact ⟨rfl, hbw⟩

end Go.Proofs.YtebdlcgegdobkaaDoor
