/- TreePaths: an account is below another one just if that stands on its path. -/
import Derived.Test.YtbemlgkaghnggaaAwake
namespace Go.Proofs.Ytbemlgkaghnggaa
open Go.RowKit

theorem take_no {T : List ByteArray} (h : T.Nodup) {j : Nat} (hj : j < T.length) : hasB (T.take j) (txAt T j) = false := by
  rw [has_no]
  intro hm
  obtain ⟨i, hi, e⟩ := List.getElem_of_mem hm
  rw [List.length_take] at hi
  rw [List.getElem_take, ← txAt_eq hj] at e
  have := (List.getElem_inj h).1 e
  omega

theorem path_parts {L : List Acc} {a : ByteArray} {i : Nat} (hR : rightB L = true) (h : fi L a = some i) : 1 ≤ (pathP L a).length ∧ txAt (pathP L a) 0 = a ∧
    (1 < (pathP L a).length → errP L (txAt (pathP L a) 1) = 0 ∧ pathP L (txAt (pathP L a) 1) = (pathP L a).drop 1) ∧ (¬ 1 < (pathP L a).length → (accAt L i).2.1 = ByteArray.empty) := by
  have h1 := path_step hR h
  refine ⟨by rw [h1]; simp, by rw [h1]; simp [txAt], ?_, ?_⟩
  · intro hl
    cases e : fi L (accAt L i).2.1 with
    | none => rw [h1, path_no e] at hl; simp at hl
    | some j =>
      have h2 := path_step hR e
      have ht : txAt (pathP L a) 1 = (accAt L i).2.1 := by rw [h1, h2]; simp [txAt]
      rw [ht]
      refine ⟨err_of hR e, ?_⟩
      rw [h1]; simp
  · intro hl
    cases e : fi L (accAt L i).2.1 with
    | none => exact right_root hR (fi_lt h) e
    | some j =>
      have h2 := path_step hR e
      rw [h1, h2] at hl
      simp at hl

theorem has_swap {L : List Acc} {a b : ByteArray} {i : Nat} (h : fi L a = some i) : hasB (pathP L a) b = hasB (belowP L b) a := by
  by_cases h1 : b ∈ pathP L a
  · rw [has_is.2 h1, has_is.2 ((below_mem h).2 h1)]
  · rw [has_no.2 h1, has_no.2 (fun h2 => h1 ((below_mem h).1 h2))]

theorem below_self {L : List Acc} {b : ByteArray} {i : Nat} (hR : rightB L = true) (h : fi L b = some i) : hasB (belowP L b) b = true := by
  rw [has_is, below_mem h, path_step hR h]
  simp

theorem below_len {L : List Acc} (b : ByteArray) : (belowP L b).length ≤ L.length := by
  rw [← belTo_all]; exact belTo_len _ _ _

set_option maxRecDepth 100000 in
set_option maxHeartbeats 2000000 in
theorem paths_any (s : Option Addr) (k c : Nat) (L : List Acc) (a b : ByteArray) (w : World) (hn : L.length = k) (hl : k ≤ 4611686018427387904) (hkc : k ≤ c) (hat : AAt w s L) :
    Calls Try.prog 4 #[.slice s k c, .string a, .string b] w fun e w' => e = .returned (.bool true) ∧ Below w.heap.size w w' := by
  have kA := fun w => awake_any w
  have k1 := pathf_any s k c L a w hn hl hkc hat
  have k2 := fun w2 (hb : Below w.heap.size w w2) => below_any s k c L b w2 hn hl hkc (hat.below hb)
  by_cases hE : errP L a = 0
  · by_cases hF : errP L b = 0
    · obtain ⟨hR, ia, hia⟩ := err_ok hE
      obtain ⟨_, ib, hib⟩ := err_ok hF
      have hk16 : k ≤ 16 := by rw [← hn]; exact (right_is.1 hR).2.1
      obtain ⟨hT1, hT0, hT2, hT3⟩ := path_parts hR hia
      have hsw := has_swap (b := b) hia
      have hself := below_self hR hib
      have hnd := path_nodup hR ia a hia
      have hTl : (pathP L a).length ≤ 16 := by have := path_len hia; have := fi_lt hia; omega
      have hUl : (belowP L b).length ≤ 16 := by have := below_len (L := L) b; omega
      have k3 := fun m w2 (hb : Below w.heap.size w w2) => pathf_any s k c L m w2 hn hl hkc (hat.below hb)
      have k4 := fun w2 (hb : Below w.heap.size w w2) => find_any s k c L a w2 hn hl (hat.below hb)
      rw [hia] at k4
      simp only [FRet] at k4
      rw [if_pos hE, hE] at k1
      rw [if_pos hF, hF] at k2
      have hiL := fi_lt hia
      have hik : ia < k := by rw [← hn]; exact hiL
      obtain ⟨sb, so, es⟩ := hat.place (by omega)
      subst es
      have hpar := fun w2 (hb : Below w.heap.size w w2) => ((hat.below hb).one hiL).2.1
      replace hE := hid hE
      replace hF := hid hF
      replace hia := hid hia
      replace hib := hid hib
      replace hR := hid hR
      replace hat := hid hat
      replace hn := hid hn
      replace hT2 := hid hT2
      replace hT3 := hid hT3
      replace hnd := hid hnd
      generalize hTT : pathP L a = T at *
      generalize hUU : belowP L b = U at *
      replace hTT := hid hTT
      replace hUU := hid hUU
      go_enter Try.func4, Try.ntmps4
      go_wp2_with fail
      refine k1.mono ?_
      rintro e w1 ⟨ta, tc, rfl, htc, hto, hb1⟩
      replace hto := hto.tat
      go_wp2_with fail
      refine (k2 _ hb1).mono ?_
      rintro e w2 ⟨ua, uc, rfl, huc, huo, hb2⟩
      have B2 := bnext hb1 hb2
      replace hto := hto.below hb2
      replace huo := huo.tat
      obtain ⟨tb, to', et⟩ := hto.place (by omega)
      subst et
      have x0 := hto.one (i := 0) (by omega)
      rw [hT0, Nat.add_zero] at x0
      have h1 := has22 (some ⟨tb, to', none⟩) T.length tc T b w2 rfl (by omega) hto
      have h2 := has22 ua U.length uc U a w2 rfl (by omega) huo
      have h3 := has22 ua U.length uc U b w2 rfl (by omega) huo
      rw [← hsw] at h2
      rw [hself] at h3
      have hT1i : decide ((T.length : Int) < 1) = false := by simp; omega
      have hTpos : 0 < T.length := by omega
      have haa := text_eq (rfl : a = a)
      replace hsw := hid hsw
      replace hself := hid hself
      replace hT0 := hid hT0
      generalize hasB T b = HB at *
      replace hto := hid hto
      replace huo := hid huo
      go_wp2_with fail
      refine h1.mono ?_
      rintro e w3 ⟨rfl, rfl⟩
      go_wp2_with fail
      refine h2.mono ?_
      rintro e w4 ⟨rfl, rfl⟩
      go_wp2_with fail
      refine h3.mono ?_
      rintro e w5 ⟨rfl, rfl⟩
      clear h1 h2 h3
      go_wp2_with fail
      go_loopw [11] (fun i wr => ∃ j : Nat, j ≤ T.length ∧ i = .int .i64 (j : Int) ∧ Below w5.heap.size w5 wr) (fun i _ => T.length - (intOf i).toNat)
      case atStart => exact ⟨0, Nat.zero_le _, rfl, Below.refl _ _⟩
      case round =>
        obtain ⟨j, hj, rfl, hb⟩ := hrel
        by_cases hlt : j < T.length
        · have hjc : (j : Int) ≤ (tc : Int) := by omega
          have hjT : (j : Int) ≤ (T.length : Int) := by omega
          have hc0 : ¬ tc = 0 := by omega
          have xj := (hto.out.below hb).one hlt
          have hno := take_no hnd.out hlt
          have kH : ∀ q, Calls Try.prog 22 #[.slice (some ⟨tb, to', none⟩) j tc, .string (txAt T j)] (wr.drewN q) fun e w' => e = .returned (.bool false) ∧ w' = wr.drewN q := fun q => by
            have := has22 (some ⟨tb, to', none⟩) j tc (T.take j) (txAt T j) (wr.drewN q) (by rw [List.length_take]; omega) (by omega) ((hto.out.below (below_drewN hb q)).take j)
            rw [hno] at this
            exact this
          replace hno := hid hno
          generalize txAt T j = X at *
          go_wp2_with fail
          go_quiet (first | (go_at_call 22; exact Calls.quiet_of_same (kH _)))
          have B1 := below_drewN hb nq
          go_wp2_with fail
          go_roundw
          case rel => exact ⟨j + 1, by omega, by go_num, B1⟩
          case measure => simp [intOf]; omega
        · have hje : j = T.length := by omega
          subst hje
          have B5 := bnext B2 hb
          by_cases h1 : 1 < T.length
          · obtain ⟨e1, e2⟩ := hT2.out h1
            have d1 : decide ((1 : Int) < (T.length : Int)) = true := by simp; omega
            have x1 := (hto.out.below hb).one (i := 1) (by omega)
            have kP := k3 (txAt T 1) _ B5
            rw [if_pos e1, e1, e2] at kP
            have hdl : (T.drop 1).length = T.length - 1 := by simp
            replace hdl := hid hdl
            generalize hDD : T.drop 1 = D at *
            replace hDD := hid hDD
            replace e1 := hid e1
            replace e2 := hid e2
            generalize txAt T 1 = X at *
            go_wp2_with fail
            refine kP.mono ?_
            rintro e w6 ⟨ra, rc, rfl, hrc, hro, hb6⟩
            replace hro := hro.tat
            have hat2 := (hto.out.below (bnext hb hb6)).drop 1
            rw [hDD.out] at hat2
            have kS := samet_any ra (some ⟨tb, to' + 1, none⟩) D.length rc (tc - 1) D w6 rfl (by have := hdl.out; omega) hro hat2
            have hlen : D.length = T.length - 1 := hdl.out
            rw [hlen] at kS ⊢
            replace hlen := hid hlen
            replace hro := hid hro
            replace hat2 := hid hat2
            have h1t : (1 : Int) ≤ (T.length : Int) := by omega
            have h1c : 1 ≤ tc := by omega
            go_wp2_with fail
            refine kS.mono ?_
            rintro e w7 ⟨rfl, hb7⟩
            have B7 := bnext B5 (bnext hb6 hb7)
            go_wp2_with fail
            refine (kA _).mono ?_
            rintro e w8 ⟨rfl, hb8⟩
            have B8 := bnext B7 hb8
            go_wp2
            go_ret
            exact ⟨rfl, B8⟩
          · have hroot := hT3.out h1
            have d1 : decide ((1 : Int) < (T.length : Int)) = false := by simp; omega
            have hp := hpar _ B5
            rw [hroot] at hp
            go_wp2_with fail
            refine (k4 _ B5).mono ?_
            rintro e w6 ⟨rfl, hb6⟩
            have B6 := bnext B5 hb6
            have hp6 := stay hb6 hp
            go_wp2_with fail
            refine (kA _).mono ?_
            rintro e w8 ⟨rfl, hb8⟩
            have B8 := bnext B6 hb8
            go_wp2
            go_ret
            exact ⟨rfl, B8⟩
    · rw [if_pos hE, hE] at k1
      rw [if_neg hF] at k2
      have h1 : (errP L b == 0) = false := by simpa using hF
      replace hE := hid hE
      replace hat := hid hat
      replace hn := hid hn
      generalize errP L b = F at *
      generalize pathP L a = T at *
      go_enter Try.func4, Try.ntmps4
      go_wp2_with fail
      refine k1.mono ?_
      rintro e w1 ⟨ta, tc, rfl, htc, hto, hb1⟩
      replace hto := hid hto
      go_wp2_with fail
      refine (k2 _ hb1).mono ?_
      rintro e w2 ⟨ua, uc, rfl, huc, huo, hb2⟩
      have B2 := bnext hb1 hb2
      replace huo := hid huo
      go_wp2_with fail
      refine (kA _).mono ?_
      rintro e w8 ⟨rfl, hb8⟩
      have B8 := bnext B2 hb8
      go_wp2
      go_ret
      exact ⟨rfl, B8⟩
  · rw [if_neg hE] at k1
    have h1 : (errP L a == 0) = false := by simpa using hE
    generalize (if errP L b = 0 then belowP L b else []) = U at *
    generalize errP L b = F at *
    generalize errP L a = E at *
    replace hat := hid hat
    replace hn := hid hn
    go_enter Try.func4, Try.ntmps4
    go_wp2_with fail
    refine k1.mono ?_
    rintro e w1 ⟨ta, tc, rfl, htc, hto, hb1⟩
    replace hto := hid hto
    go_wp2_with fail
    refine (k2 _ hb1).mono ?_
    rintro e w2 ⟨ua, uc, rfl, huc, huo, hb2⟩
    have B2 := bnext hb1 hb2
    replace huo := hid huo
    go_wp2_with fail
    refine (kA _).mono ?_
    rintro e w8 ⟨rfl, hb8⟩
    have B8 := bnext B2 hb8
    go_wp2
    go_ret
    exact ⟨rfl, B8⟩

end Go.Proofs.Ytbemlgkaghnggaa
