/- The document's profiles: Right, New, Copy, add. -/
import Derived.Test.YticlpjpbjgfgmaaFree2
import Derived.Test.YticlpjpbjgfgmaaRefAdd
import Derived.Test.YticlpjpbjgfgmaaNdRef
namespace Go.Proofs.Yticlpjpbjgfgmaa
open Go.RowKit

set_option maxRecDepth 100000 in
set_option maxHeartbeats 800000 in
theorem rright_any (a : Option Addr) (n c : Nat) (L : List Nd1) (w : World) (hn : L.length = n) (hl : n ≤ 4611686018427387904) (hs : ∀ x ∈ L, x.C.length ≤ 4611686018427387904) (hat : PAt w a L) :
    Calls Try.prog 20 #[.slice a n c] w fun e w' => e = .returned (.bool (rightPB (cutsOf L))) ∧ Below w.heap.size w w' := by
  have hcl : (cutsOf L).length = L.length := by simp [cutsOf]
  replace hn := hid hn
  replace hat := hid hat
  replace hs := hid hs
  replace hcl := hid hcl
  go_enter Try.func20, Try.ntmps20
  go_wp2_with fail
  go_loopw [3] (fun i wr => ∃ j : Nat, j ≤ n ∧ i = .int .i64 (j : Int) ∧ Hid (RightTo L j) ∧ Below w.heap.size w wr) (fun i _ => n - (intOf i).toNat)
  case atStart => exact ⟨0, Nat.zero_le _, rfl, hid (fun x hx => by simp at hx), Below.refl _ _⟩
  case round =>
    obtain ⟨j, hj, rfl, hok, hb⟩ := hrel
    by_cases hlt : j < n
    · have hjL : j < L.length := by rw [hn.out]; exact hlt
      obtain ⟨b, o, e⟩ := hat.out.place (by omega)
      subst e
      have y0 := (hat.out.below hb).one hjL
      have kR := rightr_any L[j].a L[j].C.length L[j].c L[j].C wr rfl (hs.out _ (List.getElem_mem hjL)) ((hat.out.below hb).each _ (List.getElem_mem hjL))
      by_cases h2 : RightP L[j].C
      · rw [rightB_iff.2 h2] at kR
        have hok2 := hid (hok.out.next hjL h2)
        replace h2 := hid h2
        generalize L[j].a = la at *
        generalize L[j].c = lc at *
        generalize L[j].C.length = ll at *
        go_wp2_with fail
        refine kR.mono ?_
        rintro e w1 ⟨rfl, hb1⟩
        have hb2 := bnext hb hb1
        go_wp2_with fail
        go_roundw
        case rel => exact ⟨j + 1, by omega, by go_num, hok2, hb2⟩
        case measure => simp [intOf]; omega
      · have hf := hid (show rightPB (cutsOf L) = false from rightPB_no fun h => h2 (h.2.2 _ (List.mem_map.2 ⟨_, List.getElem_mem hjL, rfl⟩)))
        rw [rightB_false h2] at kR
        replace h2 := hid h2
        generalize L[j].a = la at *
        generalize L[j].c = lc at *
        generalize L[j].C.length = ll at *
        go_wp2_with fail
        refine kR.mono ?_
        rintro e w1 ⟨rfl, hb1⟩
        have hb2 := bnext hb hb1
        go_wp2
        go_ret
        rw [hf.out]; exact ⟨rfl, hb2⟩
    · have hje : j = n := by omega
      subst hje
      have hall := hid (show ∀ C ∈ cutsOf L, RightP C from fun C hC => by
        obtain ⟨x, hx, rfl⟩ := List.mem_map.1 hC
        exact hok.out x (by rw [← hn.out, List.take_length]; exact hx))
      by_cases h1 : 1 ≤ j
      · have d1 : decide ((1 : Int) ≤ (j : Int)) = true := decide_eq_true (by omega)
        by_cases h2 : j ≤ 32
        · have d2 : decide ((j : Int) ≤ 32) = true := decide_eq_true (by omega)
          have hf := hid (show rightPB (cutsOf L) = true from rightPB_iff.2 ⟨by rw [hcl.out, hn.out]; omega, by rw [hcl.out, hn.out]; exact h2, hall.out⟩)
          go_wp2
          go_ret
          rw [hf.out]; exact ⟨rfl, hb⟩
        · have d2 : decide ((j : Int) ≤ 32) = false := decide_eq_false (by omega)
          have hf := hid (show rightPB (cutsOf L) = false from rightPB_no fun h => h2 (by have := h.2.1; rw [hcl.out, hn.out] at this; exact this))
          go_wp2
          go_ret
          rw [hf.out]; exact ⟨rfl, hb⟩
      · have d1 : decide ((1 : Int) ≤ (j : Int)) = false := decide_eq_false (by omega)
        have hf := hid (show rightPB (cutsOf L) = false from rightPB_no fun h => h1 (by have := h.1; rw [hcl.out, hn.out] at this; omega))
        go_wp2
        go_ret
        rw [hf.out]; exact ⟨rfl, hb⟩

set_option maxRecDepth 100000 in
set_option maxHeartbeats 800000 in
theorem rnew_any (a : Option Addr) (n c0 : Nat) (Z : List Int) (w : World) (hn : Z.length = n) (hl : n ≤ 4611686018427387904) (hat : CAt w a (Z.map Nd.I)) :
    Calls Try.prog 11 #[.slice a n c0] w fun e w' => PTold (newA Z) w e w' := by
  replace hn := hid hn
  replace hat := hid hat
  rcases Nat.lt_or_ge n 1 with h0 | h0
  · have hf := hid (show newA Z = ([], 2) from if_neg fun h => by have := h.1; rw [hn.out] at this; omega)
    have d0 : decide ((n : Int) < 1) = true := decide_eq_true (by omega)
    go_enter Try.func11, Try.ntmps11
    go_wp2
    go_ret2
    rw [hf.out]
    exact ptold_nil _ _ _ (Below.refl _ _)
  · have d0 : decide ((n : Int) < 1) = false := decide_eq_false (by omega)
    rcases Nat.lt_or_ge 32 n with h1 | h1
    · have hf := hid (show newA Z = ([], 2) from if_neg fun h => by have := h.2.1; rw [hn.out] at this; omega)
      have d1 : decide ((32 : Int) < (n : Int)) = true := decide_eq_true (by omega)
      go_enter Try.func11, Try.ntmps11
      go_wp2
      go_ret2
      rw [hf.out]
      exact ptold_nil _ _ _ (Below.refl _ _)
    · have d1 : decide ((32 : Int) < (n : Int)) = false := decide_eq_false (by omega)
      obtain ⟨b, o, e⟩ := Nd.iat_place hat.out (by intro e; have := hn.out; rw [e] at this; simp at this; omega)
      subst e
      go_enter Try.func11, Try.ntmps11
      go_wp2_with fail
      go_loopw [4, 5] (fun v i wr => ∃ j : Nat, j ≤ n ∧ i = .int .i64 (j : Int) ∧ (∃ M : List Nd1, M.length = j ∧ Hid (cutsOf M = (Z.take j).map fun c => [(0, c)]) ∧ Hid (POwn wr w.heap.size v M)) ∧ Hid (NewTo Z j) ∧ Below w.heap.size w wr) (fun _ i _ => n - (intOf i).toNat)
      case atStart => exact ⟨0, Nat.zero_le _, rfl, ⟨[], rfl, hid rfl, hid (POwn.nil _ _)⟩, hid (fun x hx => by simp at hx), Below.refl _ _⟩
      case round =>
        obtain ⟨j, hj, rfl, ⟨M, hM, hcM, hv⟩, hok, hb⟩ := hrel
        by_cases hlt : j < n
        · have hjL : j < Z.length := by rw [hn.out]; exact hlt
          have x0 := Nd.iat_cell (hat.out.below hb) j hjL
          have hmem := List.getElem_mem hjL
          by_cases h2 : Z[j] < 1
          · have hf := hid (show newA Z = ([], 2) from if_neg fun h => by have := (h.2.2 _ hmem).1; omega)
            have d2 : decide (Z[j] < 1) = true := decide_eq_true h2
            generalize Z[j] = X at *
            go_wp2
            go_ret2
            rw [hf.out]
            exact ptold_nil _ _ _ hb
          · have d2 : decide (Z[j] < 1) = false := decide_eq_false h2
            by_cases h3 : 64 < Z[j]
            · have hf := hid (show newA Z = ([], 2) from if_neg fun h => by have := (h.2.2 _ hmem).2; omega)
              have d3 : decide (64 < Z[j]) = true := decide_eq_true h3
              generalize Z[j] = X at *
              go_wp2
              go_ret2
              rw [hf.out]
              exact ptold_nil _ _ _ hb
            · have d3 : decide (64 < Z[j]) = false := decide_eq_false h3
              have hok2 := hid (hok.out.next hjL ⟨by omega, by omega⟩)
              have kF := fun w => flatr_any Z[j] w
              rw [show flatA Z[j] = ([(0, Z[j])], 0) from if_pos ⟨by omega, by omega⟩] at kF
              have hts := hid (show (Z.take (j + 1)).map (fun c => [((0 : Int), c)]) = (Z.take j).map (fun c => [((0 : Int), c)]) ++ [[(0, Z[j])]] by
                rw [List.take_add_one, List.getElem?_eq_getElem hjL, List.map_append]; rfl)
              have hM32 : M.length ≤ 32 := by omega
              replace hM := hid hM
              clear hmem
              generalize Z[j] = X at *
              go_wp2_with fail
              refine (kF _).mono ?_
              rintro e w1 ⟨ad, k, rfl, hown, hb1⟩
              replace hown := hid hown
              have hb2 := bnext hb hb1
              go_wp2_with (at_builtin; refine Hid.out ?_)
              refine hid ?_
              refine push_pr _ rfl (.tmp 42) (.tmp 44) rfl w.heap.size ad 1 k [(0, X)] rfl _ M rfl (hv.out.below hb1) rfl (hown.out.low hb.size) (new_off hv.out.own hown.out) (by omega) hb2.size ?_
              intro v3 w3 hP3 hB3
              have hb3 := hB3 w hb2
              have hcM2 := hid (show cutsOf (M ++ [⟨ad, k, [(0, X)]⟩]) = (Z.take (j + 1)).map (fun c => [((0 : Int), c)]) by
                rw [hts.out, ← hcM.out]; simp [cutsOf])
              replace hP3 := hid hP3
              go_wp2_with fail
              go_roundw
              case rel => exact ⟨j + 1, by omega, by go_num, ⟨_, by rw [List.length_append, hM.out]; rfl, hcM2, hP3⟩, hok2, hb3⟩
              case measure => simp [intOf]; omega
        · have hje : j = n := by omega
          subst hje
          have hf := hid (show newA Z = (Z.map fun c => [(0, c)], 0) from if_pos ⟨by rw [hn.out]; omega, by rw [hn.out]; omega, fun x hx => hok.out x (by rw [← hn.out, List.take_length]; exact hx)⟩)
          have hcM3 := hcM.out
          rw [← hn.out, List.take_length] at hcM3
          rw [← hcM3] at hf
          clear hcM3
          obtain ⟨ad, c, e, _⟩ := owns_form hv.out.own
          subst e
          go_wp2
          go_ret2
          rw [hf.out]
          refine ⟨ad, c, M, ?_, rfl, ?_, hb⟩
          · show _ = Ending.returned (.tuple #[.slice ad (cutsOf M).length c, .int .i64 0])
            rw [cutsOf_len]
            rfl
          · show POwn _ _ (.slice ad (cutsOf M).length c) M
            rw [cutsOf_len]; exact hv.out

/-- A copy in memory of its own. -/
def CpTold (L : List Nd1) (w : World) (e : Ending) (w' : World) : Prop := ∃ ad k M, e = .returned (.slice ad L.length k) ∧ cutsOf M = cutsOf L ∧ POwn w' w.heap.size (.slice ad L.length k) M ∧ Below w.heap.size w w'

theorem cuts_snoc {L M : List Nd1} {j : Nat} (hj : j < L.length) (h : cutsOf M = (cutsOf L).take j) (x : Nd1) (hx : x.C = L[j].C) : cutsOf (M ++ [x]) = (cutsOf L).take (j + 1) := by
  have e : (cutsOf L)[j]? = some L[j].C := by unfold cutsOf; rw [List.getElem?_map, List.getElem?_eq_getElem hj]; rfl
  rw [List.take_add_one, e, ← h, ← hx]
  simp [cutsOf]

set_option maxRecDepth 100000 in
set_option maxHeartbeats 800000 in
theorem rcopy_any (a : Option Addr) (n c0 : Nat) (L : List Nd1) (w : World) (hn : L.length = n) (hl : n ≤ 1000000) (hs : ∀ x ∈ L, x.C.length ≤ 100000) (hat : PAt w a L) :
    Calls Try.prog 9 #[.slice a n c0] w fun e w' => CpTold L w e w' := by
  replace hn := hid hn
  replace hat := hid hat
  replace hs := hid hs
  go_enter Try.func9, Try.ntmps9
  go_wp2_with fail
  go_loopw [3, 4] (fun v i wr => ∃ j : Nat, j ≤ n ∧ i = .int .i64 (j : Int) ∧ (∃ M : List Nd1, M.length = j ∧ Hid (cutsOf M = (cutsOf L).take j) ∧ Hid (POwn wr w.heap.size v M)) ∧ Below w.heap.size w wr) (fun _ i _ => n - (intOf i).toNat)
  case atStart => exact ⟨0, Nat.zero_le _, rfl, ⟨[], rfl, hid rfl, hid (POwn.nil _ _)⟩, Below.refl _ _⟩
  case round =>
    obtain ⟨j, hj, rfl, ⟨M, hM, hcM, hv⟩, hb⟩ := hrel
    by_cases hlt : j < n
    · have hjL : j < L.length := by rw [hn.out]; exact hlt
      obtain ⟨b, o, e⟩ := hat.out.place (by omega)
      subst e
      have y0 := (hat.out.below hb).one hjL
      have hcj := hs.out _ (List.getElem_mem hjL)
      have kC := copy_any L[j].a L[j].C.length L[j].c L[j].C wr rfl (by omega) ((hat.out.below hb).each _ (List.getElem_mem hjL))
      have hsn := hid (fun x hx => cuts_snoc hjL hcM.out x hx)
      have hM32 : M.length ≤ 1000000 := by omega
      replace hM := hid hM
      generalize L[j].a = la at *
      generalize L[j].c = lc at *
      generalize L[j].C = lC at *
      generalize hll : lC.length = ll at *
      replace hll := hid hll
      go_wp2_with fail
      refine kC.mono ?_
      rintro e w1 ⟨ad, k, rfl, hown, hb1⟩
      replace hown := hid hown
      have hb2 := bnext hb hb1
      go_wp2_with (at_builtin; refine Hid.out ?_)
      refine hid ?_
      refine push_pr _ rfl (.tmp 11) (.tmp 17) rfl w.heap.size ad ll k lC hll.out _ M rfl (hv.out.below hb1) rfl (hown.out.low hb.size) (new_off hv.out.own hown.out) (by omega) hb2.size ?_
      intro v3 w3 hP3 hB3
      have hb3 := hB3 w hb2
      have hcM2 := hid (hsn.out ⟨ad, k, lC⟩ rfl)
      replace hP3 := hid hP3
      go_wp2_with fail
      go_roundw
      case rel => exact ⟨j + 1, by omega, by go_num, ⟨_, by rw [List.length_append, hM.out]; rfl, hcM2, hP3⟩, hb3⟩
      case measure => simp [intOf]; omega
    · have hje : j = n := by omega
      subst hje
      obtain ⟨ad, c, e, _⟩ := owns_form hv.out.own
      rw [hM] at e
      subst e
      have hcf := hid (show cutsOf M = cutsOf L by rw [hcM.out, List.take_of_length_le (by rw [cutsOf_len, hn.out]; omega)])
      go_wp2
      go_ret
      refine ⟨ad, c, M, ?_, hcf.out, ?_, hb⟩
      · rw [hn.out]; rfl
      · rw [hn.out]; exact hv.out

set_option maxRecDepth 100000 in
set_option maxHeartbeats 1000000 in
theorem radd_any (a : Option Addr) (n c0 : Nat) (L : List Nd1) (on : Nat) (m p q : Int) (w : World) (hn : L.length = n) (hl : n ≤ 32) (hs : ∀ x ∈ L, x.C.length ≤ 4096) (hon : on < 4294967296) (hat : PAt w a L) :
    Calls Try.prog 40 #[.slice a n c0, .int .u32 (on : Int), .int .i64 m, .int .i64 p, .int .i64 q] w fun e w' => PTold (adA (cutsOf L) on m p q) w e w' := by
  have hcl := cutsOf_len L
  rw [hn] at hcl
  replace hn := hid hn
  replace hat := hid hat
  replace hs := hid hs
  replace hcl := hid hcl
  go_enter Try.func40, Try.ntmps40
  go_wp2_with fail
  go_loopw [12, 13] (fun v i wr => ∃ j : Nat, j ≤ n ∧ i = .int .i64 (j : Int) ∧ (∃ M : List Nd1, M.length = j ∧ Hid (cutsOf M = (List.range j).map fun i => (nodeA (cutsOf L) on m p q i).1) ∧ Hid (POwn wr w.heap.size v M)) ∧ Hid (AdTo (cutsOf L) on m p q j) ∧ Below w.heap.size w wr) (fun _ i _ => n - (intOf i).toNat)
  case atStart => exact ⟨0, Nat.zero_le _, rfl, ⟨[], rfl, hid rfl, hid (POwn.nil _ _)⟩, hid (fun i hi => absurd hi (by omega)), Below.refl _ _⟩
  case round =>
    obtain ⟨j, hj, rfl, ⟨M, hM, hcM, hv⟩, hok, hb⟩ := hrel
    by_cases hlt : j < n
    · have hjL : j < L.length := by rw [hn.out]; exact hlt
      obtain ⟨b, o, e⟩ := hat.out.place (by omega)
      subst e
      have y0 := (hat.out.below hb).one hjL
      have hsat := hid ((hat.out.below hb).each _ (List.getElem_mem hjL))
      have hcj := hs.out _ (List.getElem_mem hjL)
      have kC := copy_any L[j].a L[j].C.length L[j].c L[j].C wr rfl (by omega) hsat.out
      have kA := fun ad k w' (h : SAt w' ad L[j].C) => addr_any ad L[j].C.length k L[j].C p q m w' rfl (by omega) h
      have hget := hid (cutsOf_get hjL)
      have hj32 : j < 32 := by omega
      have hM32 : M.length ≤ 32 := by omega
      replace hM := hid hM
      have kH := fun w => Nd.hasr_any on (j : Int) hon (by omega) (by omega) w
      rw [Nd.hasR_nat on j hj32] at kH
      cases hbit : on.testBit j
      · have hnA := hid (show nodeA (cutsOf L) on m p q j = (L[j].C, 0) by unfold nodeA; rw [hbit, hget.out]; rfl)
        have hok2 := hid (hok.out.next (by rw [hnA.out]))
        rw [hbit] at kH
        generalize L[j].a = la at *
        generalize L[j].c = lc at *
        generalize L[j].C = lC at *
        generalize hll : lC.length = ll at *
        replace hll := hid hll
        go_wp2_with fail
        refine kC.mono ?_
        rintro e w1 ⟨ad, k, rfl, hown, hb1⟩
        replace hown := hid hown
        have hb2 := bnext hb hb1
        go_wp2_with fail
        refine (kH _).mono ?_
        rintro e w2 ⟨rfl, rfl⟩
        go_wp2_with (at_builtin; refine Hid.out ?_)
        refine hid ?_
        refine push_pr _ rfl (.tmp 43) (.tmp 45) rfl w.heap.size ad ll k lC hll.out _ M rfl (hv.out.below hb1) rfl (hown.out.low hb.size) (new_off hv.out.own hown.out) (by omega) hb2.size ?_
        intro v3 w3 hP3 hB3
        have hb3 := hB3 w hb2
        have hcM2 := hid (show cutsOf (M ++ [⟨ad, k, lC⟩]) = (List.range (j + 1)).map fun i => (nodeA (cutsOf L) on m p q i).1 by
          rw [range_snoc, ← hcM.out, hnA.out]; simp [cutsOf])
        replace hP3 := hid hP3
        go_wp2_with fail
        go_roundw
        case rel => exact ⟨j + 1, by omega, by go_num, ⟨_, by rw [List.length_append, hM.out]; rfl, hcM2, hP3⟩, hok2, hb3⟩
        case measure => simp [intOf]; omega
      · have hnA := hid (show nodeA (cutsOf L) on m p q j = addA L[j].C p q m by unfold nodeA; rw [hbit, hget.out]; rfl)
        rw [hbit] at kH
        by_cases he : (addA L[j].C p q m).2 = 0
        · have hok2 := hid (hok.out.next (by rw [hnA.out]; exact he))
          unfold Told at kA
          rw [he] at kA
          generalize L[j].a = la at *
          generalize L[j].c = lc at *
          generalize L[j].C = lC at *
          generalize hll : lC.length = ll at *
          replace hll := hid hll
          replace he := hid he
          generalize hrr : (addA lC p q m).1 = rr at *
          replace hrr := hid hrr
          generalize hrl : rr.length = rl at *
          replace hrl := hid hrl
          go_wp2_with fail
          refine kC.mono ?_
          rintro e w1 ⟨ad, k, rfl, hown, hb1⟩
          replace hown := hid hown
          have hb2 := bnext hb hb1
          go_wp2_with fail
          refine (kH _).mono ?_
          rintro e w2 ⟨rfl, rfl⟩
          go_wp2_with fail
          refine (kA _ _ _ hown.out.sat).mono ?_
          rintro e w3 ⟨ad3, k3, rfl, hown3, hb3⟩
          replace hown3 := hid hown3
          have hb4 := bnext hb1 hb3
          have hb5 := bnext hb hb4
          go_wp2_with (at_builtin; refine Hid.out ?_)
          refine hid ?_
          refine push_pr _ rfl (.tmp 43) (.tmp 45) rfl w.heap.size ad3 rl k3 rr hrl.out _ M rfl (hv.out.below hb4) rfl (hown3.out.low hb2.size) (new_off (hv.out.below hb1).own hown3.out) (by omega) hb5.size ?_
          intro v6 w6 hP6 hB6
          have hb6 := hB6 w hb5
          have hcM2 := hid (show cutsOf (M ++ [⟨ad3, k3, rr⟩]) = (List.range (j + 1)).map fun i => (nodeA (cutsOf L) on m p q i).1 by
            rw [range_snoc, ← hcM.out, hnA.out, hrr.out]; simp [cutsOf])
          replace hP6 := hid hP6
          go_wp2_with fail
          go_roundw
          case rel => exact ⟨j + 1, by omega, by go_num, ⟨_, by rw [List.length_append, hM.out]; rfl, hcM2, hP6⟩, hok2, hb6⟩
          case measure => simp [intOf]; omega
        · have hf := hid (adA_bad hok.out (by rw [hcl.out]; exact hlt) (by rw [hnA.out]; exact he))
          have hd : ((addA L[j].C p q m).2 != 0) = true := by simpa using he
          rw [hnA.out] at hf
          unfold Told at kA
          generalize L[j].a = la at *
          generalize L[j].c = lc at *
          generalize L[j].C = lC at *
          generalize hll : lC.length = ll at *
          replace hll := hid hll
          replace he := hid he
          generalize (addA lC p q m).1.length = rl at *
          generalize (addA lC p q m).2 = re at *
          go_wp2_with fail
          refine kC.mono ?_
          rintro e w1 ⟨ad, k, rfl, hown, hb1⟩
          replace hown := hid hown
          have hb2 := bnext hb hb1
          go_wp2_with fail
          refine (kH _).mono ?_
          rintro e w2 ⟨rfl, rfl⟩
          go_wp2_with fail
          refine (kA _ _ _ hown.out.sat).mono ?_
          rintro e w3 ⟨ad3, k3, rfl, hown3, hb3⟩
          replace hown3 := hid hown3
          have hb5 := bnext hb2 hb3
          go_wp2
          go_ret2
          rw [hf.out]
          exact ptold_nil _ _ _ hb5
    · have hje : j = n := by omega
      subst hje
      have hf := hid (adA_ok (P := cutsOf L) (on := on) (m := m) (p := p) (q := q) (by rw [hcl.out]; exact hok.out))
      rw [hcl.out, ← hcM.out] at hf
      obtain ⟨ad, c, e, _⟩ := owns_form hv.out.own
      subst e
      go_wp2
      go_ret2
      rw [hf.out]
      refine ⟨ad, c, M, ?_, rfl, ?_, hb⟩
      · show _ = Ending.returned (.tuple #[.slice ad (cutsOf M).length c, .int .i64 0])
        rw [cutsOf_len]
        rfl
      · show POwn _ _ (.slice ad (cutsOf M).length c) M
        rw [cutsOf_len]; exact hv.out

end Go.Proofs.Yticlpjpbjgfgmaa
