/- TreeTells: accounts are found, and their paths, subtrees and limits told, as the document defines. -/
import Derived.Test.YtbemlgkaghnggaaRef4
namespace Go.Proofs.Ytbemlgkaghnggaa
open Go.RowKit

theorem Sized.take {L : List Acc} (h : Sized L) (k : Nat) : Sized (L.take k) := fun x hx => h x (List.take_subset _ _ hx)

/-- All that is told of one list, by the program and by the document. -/
structure Both (s : Option Addr) (q c : Nat) (K : List Acc) (n : ByteArray) (x : Int) (w : World) : Prop where
  copy : Calls Try.prog 6 #[.slice s q c] w fun e w' => ATold1 K w e w'
  path : ∀ a d w2, q ≤ d → AAt w2 a K → Calls Try.prog 7 #[.slice a q d, .string n] w2 fun e w' => TTold (if errP K n = 0 then pathP K n else []) (errP K n) w2 e w'
  rpath : ∀ w2, Below w.heap.size w w2 → Calls Try.prog 8 #[.slice s q c, .string n] w2 fun e w' => TTold (if errP K n = 0 then pathP K n else []) (errP K n) w2 e w'
  below : ∀ a d w2, q ≤ d → AAt w2 a K → Calls Try.prog 9 #[.slice a q d, .string n] w2 fun e w' => TTold (if errP K n = 0 then belowP K n else []) (errP K n) w2 e w'
  rbelow : ∀ w2, Below w.heap.size w w2 → Calls Try.prog 10 #[.slice s q c, .string n] w2 fun e w' => TTold (if errP K n = 0 then belowP K n else []) (errP K n) w2 e w'
  limit : ∀ a d w2, q ≤ d → AAt w2 a K → Calls Try.prog 11 #[.slice a q d, .string n, .int .i64 x] w2 fun e w' => ATold (if lerrP K n x = 0 then limP K n x else []) (lerrP K n x) w2 e w'
  rlimit : ∀ w2, Below w.heap.size w w2 → Calls Try.prog 12 #[.slice s q c, .string n, .int .i64 x] w2 fun e w' => ATold (if lerrP K n x = 0 then limP K n x else []) (lerrP K n x) w2 e w'
  find : ∀ a d w2, AAt w2 a K → Calls Try.prog 13 #[.slice a q d, .string n] w2 fun e w' => e = FRet (fi K n) ∧ Below w2.heap.size w2 w'
  rfind : ∀ w2, Below w.heap.size w w2 → Calls Try.prog 14 #[.slice s q c, .string n] w2 fun e w' => e = FRet (fi K n) ∧ w' = w2
  right : ∀ a d w2, q ≤ d → AAt w2 a K → Calls Try.prog 15 #[.slice a q d] w2 fun e w' => e = .returned (.bool (rightB K)) ∧ Below w2.heap.size w2 w'
  rright : ∀ w2, Below w.heap.size w w2 → Calls Try.prog 16 #[.slice s q c] w2 fun e w' => e = .returned (.bool (rightB K)) ∧ Below w2.heap.size w2 w'
  name : ∀ w2, Calls Try.prog 17 #[.string n] w2 fun e w' => e = .returned (.bool (nameB n)) ∧ Below w2.heap.size w2 w'
  rname : ∀ w2, Calls Try.prog 18 #[.string n] w2 fun e w' => e = .returned (.bool (nameB n)) ∧ w' = w2

theorem both_any (s : Option Addr) (q c : Nat) (K : List Acc) (n : ByteArray) (x : Int) (w : World) (hq : K.length = q) (h100 : q ≤ 100) (hqc : q ≤ c) (hsz : Sized K) (hns : n.size ≤ 9223372036854775807) (hat : AAt w s K) : Both s q c K n x w where
  copy := copy_any s q c K w hq (by omega) hat
  path := fun a d w2 hd h => pathf_any a q d K n w2 hq (by omega) hd h
  rpath := fun w2 hb => rpath_any s q c K n w2 hq (by omega) hqc hsz (hat.below hb)
  below := fun a d w2 hd h => below_any a q d K n w2 hq (by omega) hd h
  rbelow := fun w2 hb => rbelow_any s q c K n w2 hq (by omega) hqc hsz (hat.below hb)
  limit := fun a d w2 hd h => limit_any a q d K n x w2 hq (by omega) hd h
  rlimit := fun w2 hb => rlimit_any s q c K n x w2 hq (by omega) hqc hsz (hat.below hb)
  find := fun a d w2 h => find_any a q d K n w2 hq (by omega) h
  rfind := fun w2 hb => rfind_any s q c K n w2 hq (by omega) (hat.below hb)
  right := fun a d w2 hd h => right_any a q d K w2 hq hd h
  rright := fun w2 hb => rright_any s q c K w2 hq (by omega) hqc hsz (hat.below hb)
  name := fun w2 => name_any n w2
  rname := fun w2 => rname_any n hns w2

theorem lens_of {L : List Acc} {n : ByteArray} {x : Int} (h100 : L.length ≤ 100) : (if errP L n = 0 then pathP L n else []).length ≤ 4611686018427387904 ∧ (if errP L n = 0 then belowP L n else []).length ≤ 4611686018427387904 ∧ (if lerrP L n x = 0 then limP L n x else []).length ≤ 4611686018427387904 := by
  refine ⟨?_, ?_, ?_⟩
  · split
    · rename_i h
      obtain ⟨hR, i, hi⟩ := err_ok h
      have := path_len hi; have := fi_lt hi; omega
    · simp
  · split
    · have : (belowP L n).length ≤ L.length := by rw [← belTo_all]; exact belTo_len _ _ _
      omega
    · simp
  · split
    · rw [lim_len]; omega
    · simp

set_option maxRecDepth 100000 in
set_option maxHeartbeats 4000000 in
theorem tells_any (s : Option Addr) (k c : Nat) (L : List Acc) (n : ByteArray) (x : Int) (w : World) (hn : L.length = k) (hl : k ≤ 4611686018427387904) (hkc : k ≤ c) (hsz : Sized L) (hns : n.size ≤ 9223372036854775807) (hat : AAt w s L) :
    Calls Try.prog 3 #[.slice s k c, .string n, .int .i64 x] w fun e w' => e = .returned (.bool true) ∧ Below w.heap.size w w' := by
  have kA := fun w => awake_any w
  by_cases h100 : 100 < k
  · have d100 : decide ((100 : Int) < (k : Int)) = true := by simp; omega
    have hc0 : ¬ c = 0 := by omega
    have hc1 : (100 : Int) ≤ (c : Int) := by omega
    have hc2 : 100 ≤ c := by omega
    obtain ⟨sb, so, es⟩ := hat.place (by omega)
    subst es
    have hQK : (L.take 100).length = 100 := by rw [List.length_take]; omega
    have hB := both_any (some ⟨sb, so, none⟩) 100 c (L.take 100) n x w hQK (by omega) (by omega) (hsz.take 100) hns (hat.take 100)
    obtain ⟨lp, lb, ll⟩ := lens_of (L := L.take 100) (n := n) (x := x) (by omega)
    obtain ⟨v1, e1⟩ := FRet_form (fi (L.take 100) n)
    have hF := hB.find
    have hRF := hB.rfind
    rw [e1] at hF hRF
    have k6 := hB.copy
    have k7 := hB.path
    have k8 := hB.rpath
    have k9 := hB.below
    have k10 := hB.rbelow
    have k11 := hB.limit
    have k12 := hB.rlimit
    have k15 := hB.right
    have k16 := hB.rright
    have k17 := hB.name
    have k18 := hB.rname
    have hAK : AAt w (some ⟨sb, so, none⟩) (L.take 100) := (hat.take 100)
    clear hB e1
    replace hat := hid hat
    replace hn := hid hn
    replace hsz := hid hsz
    replace hAK := hid hAK
    generalize (L.take 100) = K at *
    generalize (fi K n).isSome = R at *
    generalize rightB K = G at *
    generalize nameB n = M at *
    generalize (if errP K n = 0 then pathP K n else []) = T at *
    generalize (if errP K n = 0 then belowP K n else []) = U at *
    generalize (if lerrP K n x = 0 then limP K n x else []) = Z at *
    generalize errP K n = E at *
    generalize lerrP K n x = F at *
    go_enter Try.func3, Try.ntmps3
    go_wp2_with fail
    refine k6.mono ?_
    rintro e w1 ⟨ia, ic, rfl, hic, hio, hb1⟩
    rw [hQK] at hic hio ⊢
    replace hQK := hid hQK
    have iA := hio.dat
    replace hio := hid hio
    clear k6
    go_wp2_with fail
    refine (k7 ia ic _ hic iA).mono ?_
    rintro e w2 ⟨ta, tc, rfl, htc, hto, hb2⟩
    have B2 := bnext hb1 hb2
    have tA := hto.tat
    replace hto := hid hto
    replace iA := iA.below hb2
    clear k7
    go_wp2_with fail
    refine (k8 _ B2).mono ?_
    rintro e w3 ⟨ta', tc', rfl, htc', hto', hb3⟩
    have B3 := bnext B2 hb3
    replace tA := tA.below hb3
    have tA' := hto'.tat
    replace hto' := hid hto'
    replace iA := iA.below hb3
    clear k8
    go_wp2_with fail
    refine (k9 ia ic _ hic iA).mono ?_
    rintro e w4 ⟨ua, uc, rfl, huc, huo, hb4⟩
    have B4 := bnext B3 hb4
    replace tA := tA.below hb4
    replace tA' := tA'.below hb4
    have uA := huo.tat
    replace huo := hid huo
    replace iA := iA.below hb4
    clear k9
    go_wp2_with fail
    refine (k10 _ B4).mono ?_
    rintro e w5 ⟨ua', uc', rfl, huc', huo', hb5⟩
    have B5 := bnext B4 hb5
    replace tA := tA.below hb5
    replace tA' := tA'.below hb5
    replace uA := uA.below hb5
    have uA' := huo'.tat
    replace huo' := hid huo'
    replace iA := iA.below hb5
    clear k10
    go_wp2_with fail
    refine (k11 ia ic _ hic iA).mono ?_
    rintro e w6 ⟨za, zc, rfl, hzc, hzo, hb6⟩
    have B6 := bnext B5 hb6
    replace tA := tA.below hb6
    replace tA' := tA'.below hb6
    replace uA := uA.below hb6
    replace uA' := uA'.below hb6
    have iA5 := iA
    replace iA := iA.below hb6
    clear k11
    go_wp2_with fail
    refine (k12 _ B6).mono ?_
    rintro e w7 ⟨za', zc', rfl, hzc', hzo', hb7⟩
    have B7 := bnext B6 hb7
    replace tA := tA.below hb7
    replace tA' := tA'.below hb7
    replace uA := uA.below hb7
    replace uA' := uA'.below hb7
    replace iA := iA.below hb7
    replace hzo := hzo.below hb7
    have zA := hzo.dat
    have zA' := hzo'.dat
    replace hzo' := hid hzo'
    clear k12
    have C7 := bnext hb6 hb7
    go_wp2_with fail
    refine (hF ia ic _ iA).mono ?_
    rintro e w8 ⟨rfl, hb8⟩
    have B8 := bnext B7 hb8
    replace tA := tA.below hb8
    replace tA' := tA'.below hb8
    replace uA := uA.below hb8
    replace uA' := uA'.below hb8
    replace iA := iA.below hb8
    replace hzo := hzo.below hb8
    replace zA := zA.below hb8
    replace zA' := zA'.below hb8
    have C8 := bnext C7 hb8
    clear hF
    go_wp2_with fail
    refine (hRF _ B8).mono ?_
    rintro e w9 ⟨rfl, rfl⟩
    clear hRF
    go_wp2_with fail
    refine (k15 ia ic _ hic iA).mono ?_
    rintro e w10 ⟨rfl, hb10⟩
    have B10 := bnext B8 hb10
    have D10 := hb10
    go_wp2_with fail
    refine (k16 _ B10).mono ?_
    rintro e w11 ⟨rfl, hb11⟩
    have B11 := bnext B10 hb11
    have D11 := bnext D10 hb11
    go_wp2_with fail
    refine (k17 _).mono ?_
    rintro e w12 ⟨rfl, hb12⟩
    have B12 := bnext B11 hb12
    have D12 := bnext D11 hb12
    go_wp2_with fail
    refine (k18 _).mono ?_
    rintro e w13 ⟨rfl, rfl⟩
    clear k15 k16 k17 k18
    have kT := samet_any ta ta' T.length tc tc' T _ rfl lp (tA.below D12) (tA'.below D12)
    have kU := fun w2 (hb : Below w9.heap.size w9 w2) => samet_any ua ua' U.length uc uc' U w2 rfl lb (uA.below hb) (uA'.below hb)
    have kZ := fun w2 (hb : Below w9.heap.size w9 w2) => samea_any za za' Z.length zc zc' Z w2 rfl ll (zA.below hb) (zA'.below hb)
    replace tA := hid tA
    replace tA' := hid tA'
    replace uA := hid uA
    replace uA' := hid uA'
    replace zA := hid zA
    replace zA' := hid zA'
    go_wp2_with fail
    refine kT.mono ?_
    rintro e w14 ⟨rfl, hb14⟩
    have D14 := bnext D12 hb14
    go_wp2_with fail
    refine (kU _ D14).mono ?_
    rintro e w15 ⟨rfl, hb15⟩
    have D15 := bnext D14 hb15
    go_wp2_with fail
    refine (kZ _ D15).mono ?_
    rintro e w16 ⟨rfl, hb16⟩
    have D16 := bnext D15 hb16
    clear kT kU kZ
    have C16 := bnext C8 D16
    have B16 := bnext B8 D16
    replace hzo := hzo.below D16
    have hZZ : ∃ Y : List Acc, Y.length = Z.length ∧ AOwn w16 w5.heap.size (.slice za Z.length zc) Y := ⟨Z, rfl, hzo⟩
    replace hZZ := hid hZZ
    replace hzo := hid hzo
    replace iA := hid iA
    replace iA5 := hid iA5
    have hw5 : w.heap.size ≤ w5.heap.size := B5.size
    go_wp2_with fail
    go_loopw [24] (fun i wr => ∃ j : Nat, j ≤ Z.length ∧ i = .int .i64 (j : Int) ∧ Hid (∃ Y : List Acc, Y.length = Z.length ∧ AOwn wr w5.heap.size (.slice za Z.length zc) Y) ∧ Below w5.heap.size w5 wr) (fun i _ => Z.length - (intOf i).toNat)
    case atStart => exact ⟨0, Nat.zero_le _, rfl, hZZ, C16⟩
    case round =>
      obtain ⟨j, hj, rfl, hY, hb⟩ := hrel
      clear hZZ
      by_cases hlt : j < Z.length
      · obtain ⟨Y, hYl, hYo⟩ := hY.out
        clear hY
        obtain ⟨g, c', e, hgb, hgl, hc', hfz⟩ := owns_spot (show wr.ownsRow w5.heap.size 37 3 (.slice za Z.length zc) Z.length (Y.flatMap ac) by have := hYo; unfold AOwn at this; rwa [hYl] at this) (by omega)
        simp only [Value.slice.injEq] at e
        obtain ⟨rfl, _, rfl⟩ := e
        have hset := AOwn.set hYo hYl hlt (⟨#[115, 112, 111, 105, 108, 116]⟩, (accAt Y j).2.1, (accAt Y j).2.2) 0 (.string ⟨#[115, 112, 111, 105, 108, 116]⟩) (by omega) rfl
        have hcell := (hYo.dat.one (i := j) (by omega)).1
        rw [Nat.zero_add] at hcell
        have hfz2 := hfz (j * 3)
        have B17 := Below.setCell (p := ⟨g, j * 3, none⟩) hb hgb (.string ⟨#[115, 112, 111, 105, 108, 116]⟩)
        have hnew : Hid (∃ Y' : List Acc, Y'.length = Z.length ∧ AOwn (wr.setCell ⟨g, j * 3, none⟩ (.string ⟨#[115, 112, 111, 105, 108, 116]⟩)) w5.heap.size (.slice (some ⟨g, 0, none⟩) Z.length zc) Y') := hid ⟨_, by rw [List.length_set]; exact hYl, hset⟩
        replace hset := hid hset
        replace hYo := hid hYo
        clear hfz
        go_wp2_with fail
        go_roundw
        case rel => exact ⟨j + 1, by omega, by go_num, hnew, B17⟩
        case measure => simp [intOf]; omega
      · have hje : j = Z.length := by omega
        have Bw : Below w.heap.size w wr := bnext B5 hb
        have kI := samea_any ia (some ⟨sb, so, none⟩) 100 ic c K wr hQK.out (by omega) (iA5.out.below hb) (hAK.out.below Bw)
        subst hje
        go_wp2_with fail
        refine kI.mono ?_
        rintro e w17 ⟨rfl, hb17⟩
        have B17 := bnext Bw hb17
        go_wp2_with fail
        refine (kA _).mono ?_
        rintro e w18 ⟨rfl, hb18⟩
        have B18 := bnext B17 hb18
        go_wp2
        go_ret
        exact ⟨rfl, B18⟩
  · have d100 : decide ((100 : Int) < (k : Int)) = false := by simp; omega
    have hQK : (L).length = k := by exact hn
    have hB := both_any s k c (L) n x w hQK (by omega) (by omega) hsz hns hat
    obtain ⟨lp, lb, ll⟩ := lens_of (L := L) (n := n) (x := x) (by omega)
    obtain ⟨v1, e1⟩ := FRet_form (fi (L) n)
    have hF := hB.find
    have hRF := hB.rfind
    rw [e1] at hF hRF
    have k6 := hB.copy
    have k7 := hB.path
    have k8 := hB.rpath
    have k9 := hB.below
    have k10 := hB.rbelow
    have k11 := hB.limit
    have k12 := hB.rlimit
    have k15 := hB.right
    have k16 := hB.rright
    have k17 := hB.name
    have k18 := hB.rname
    have hAK : AAt w s (L) := hat
    clear hB e1
    replace hsz := hid hsz
    clear hat hn
    replace hAK := hid hAK
    generalize (L) = K at *
    generalize (fi K n).isSome = R at *
    generalize rightB K = G at *
    generalize nameB n = M at *
    generalize (if errP K n = 0 then pathP K n else []) = T at *
    generalize (if errP K n = 0 then belowP K n else []) = U at *
    generalize (if lerrP K n x = 0 then limP K n x else []) = Z at *
    generalize errP K n = E at *
    generalize lerrP K n x = F at *
    go_enter Try.func3, Try.ntmps3
    go_wp2_with fail
    refine k6.mono ?_
    rintro e w1 ⟨ia, ic, rfl, hic, hio, hb1⟩
    rw [hQK] at hic hio ⊢
    replace hQK := hid hQK
    have iA := hio.dat
    replace hio := hid hio
    clear k6
    go_wp2_with fail
    refine (k7 ia ic _ hic iA).mono ?_
    rintro e w2 ⟨ta, tc, rfl, htc, hto, hb2⟩
    have B2 := bnext hb1 hb2
    have tA := hto.tat
    replace hto := hid hto
    replace iA := iA.below hb2
    clear k7
    go_wp2_with fail
    refine (k8 _ B2).mono ?_
    rintro e w3 ⟨ta', tc', rfl, htc', hto', hb3⟩
    have B3 := bnext B2 hb3
    replace tA := tA.below hb3
    have tA' := hto'.tat
    replace hto' := hid hto'
    replace iA := iA.below hb3
    clear k8
    go_wp2_with fail
    refine (k9 ia ic _ hic iA).mono ?_
    rintro e w4 ⟨ua, uc, rfl, huc, huo, hb4⟩
    have B4 := bnext B3 hb4
    replace tA := tA.below hb4
    replace tA' := tA'.below hb4
    have uA := huo.tat
    replace huo := hid huo
    replace iA := iA.below hb4
    clear k9
    go_wp2_with fail
    refine (k10 _ B4).mono ?_
    rintro e w5 ⟨ua', uc', rfl, huc', huo', hb5⟩
    have B5 := bnext B4 hb5
    replace tA := tA.below hb5
    replace tA' := tA'.below hb5
    replace uA := uA.below hb5
    have uA' := huo'.tat
    replace huo' := hid huo'
    replace iA := iA.below hb5
    clear k10
    go_wp2_with fail
    refine (k11 ia ic _ hic iA).mono ?_
    rintro e w6 ⟨za, zc, rfl, hzc, hzo, hb6⟩
    have B6 := bnext B5 hb6
    replace tA := tA.below hb6
    replace tA' := tA'.below hb6
    replace uA := uA.below hb6
    replace uA' := uA'.below hb6
    have iA5 := iA
    replace iA := iA.below hb6
    clear k11
    go_wp2_with fail
    refine (k12 _ B6).mono ?_
    rintro e w7 ⟨za', zc', rfl, hzc', hzo', hb7⟩
    have B7 := bnext B6 hb7
    replace tA := tA.below hb7
    replace tA' := tA'.below hb7
    replace uA := uA.below hb7
    replace uA' := uA'.below hb7
    replace iA := iA.below hb7
    replace hzo := hzo.below hb7
    have zA := hzo.dat
    have zA' := hzo'.dat
    replace hzo' := hid hzo'
    clear k12
    have C7 := bnext hb6 hb7
    go_wp2_with fail
    refine (hF ia ic _ iA).mono ?_
    rintro e w8 ⟨rfl, hb8⟩
    have B8 := bnext B7 hb8
    replace tA := tA.below hb8
    replace tA' := tA'.below hb8
    replace uA := uA.below hb8
    replace uA' := uA'.below hb8
    replace iA := iA.below hb8
    replace hzo := hzo.below hb8
    replace zA := zA.below hb8
    replace zA' := zA'.below hb8
    have C8 := bnext C7 hb8
    clear hF
    go_wp2_with fail
    refine (hRF _ B8).mono ?_
    rintro e w9 ⟨rfl, rfl⟩
    clear hRF
    go_wp2_with fail
    refine (k15 ia ic _ hic iA).mono ?_
    rintro e w10 ⟨rfl, hb10⟩
    have B10 := bnext B8 hb10
    have D10 := hb10
    go_wp2_with fail
    refine (k16 _ B10).mono ?_
    rintro e w11 ⟨rfl, hb11⟩
    have B11 := bnext B10 hb11
    have D11 := bnext D10 hb11
    go_wp2_with fail
    refine (k17 _).mono ?_
    rintro e w12 ⟨rfl, hb12⟩
    have B12 := bnext B11 hb12
    have D12 := bnext D11 hb12
    go_wp2_with fail
    refine (k18 _).mono ?_
    rintro e w13 ⟨rfl, rfl⟩
    clear k15 k16 k17 k18
    have kT := samet_any ta ta' T.length tc tc' T _ rfl lp (tA.below D12) (tA'.below D12)
    have kU := fun w2 (hb : Below w9.heap.size w9 w2) => samet_any ua ua' U.length uc uc' U w2 rfl lb (uA.below hb) (uA'.below hb)
    have kZ := fun w2 (hb : Below w9.heap.size w9 w2) => samea_any za za' Z.length zc zc' Z w2 rfl ll (zA.below hb) (zA'.below hb)
    replace tA := hid tA
    replace tA' := hid tA'
    replace uA := hid uA
    replace uA' := hid uA'
    replace zA := hid zA
    replace zA' := hid zA'
    go_wp2_with fail
    refine kT.mono ?_
    rintro e w14 ⟨rfl, hb14⟩
    have D14 := bnext D12 hb14
    go_wp2_with fail
    refine (kU _ D14).mono ?_
    rintro e w15 ⟨rfl, hb15⟩
    have D15 := bnext D14 hb15
    go_wp2_with fail
    refine (kZ _ D15).mono ?_
    rintro e w16 ⟨rfl, hb16⟩
    have D16 := bnext D15 hb16
    clear kT kU kZ
    have C16 := bnext C8 D16
    have B16 := bnext B8 D16
    replace hzo := hzo.below D16
    have hZZ : ∃ Y : List Acc, Y.length = Z.length ∧ AOwn w16 w5.heap.size (.slice za Z.length zc) Y := ⟨Z, rfl, hzo⟩
    replace hZZ := hid hZZ
    replace hzo := hid hzo
    replace iA := hid iA
    replace iA5 := hid iA5
    have hw5 : w.heap.size ≤ w5.heap.size := B5.size
    go_wp2_with fail
    go_loopw [24] (fun i wr => ∃ j : Nat, j ≤ Z.length ∧ i = .int .i64 (j : Int) ∧ Hid (∃ Y : List Acc, Y.length = Z.length ∧ AOwn wr w5.heap.size (.slice za Z.length zc) Y) ∧ Below w5.heap.size w5 wr) (fun i _ => Z.length - (intOf i).toNat)
    case atStart => exact ⟨0, Nat.zero_le _, rfl, hZZ, C16⟩
    case round =>
      obtain ⟨j, hj, rfl, hY, hb⟩ := hrel
      clear hZZ
      by_cases hlt : j < Z.length
      · obtain ⟨Y, hYl, hYo⟩ := hY.out
        clear hY
        obtain ⟨g, c', e, hgb, hgl, hc', hfz⟩ := owns_spot (show wr.ownsRow w5.heap.size 37 3 (.slice za Z.length zc) Z.length (Y.flatMap ac) by have := hYo; unfold AOwn at this; rwa [hYl] at this) (by omega)
        simp only [Value.slice.injEq] at e
        obtain ⟨rfl, _, rfl⟩ := e
        have hset := AOwn.set hYo hYl hlt (⟨#[115, 112, 111, 105, 108, 116]⟩, (accAt Y j).2.1, (accAt Y j).2.2) 0 (.string ⟨#[115, 112, 111, 105, 108, 116]⟩) (by omega) rfl
        have hcell := (hYo.dat.one (i := j) (by omega)).1
        rw [Nat.zero_add] at hcell
        have hfz2 := hfz (j * 3)
        have B17 := Below.setCell (p := ⟨g, j * 3, none⟩) hb hgb (.string ⟨#[115, 112, 111, 105, 108, 116]⟩)
        have hnew : Hid (∃ Y' : List Acc, Y'.length = Z.length ∧ AOwn (wr.setCell ⟨g, j * 3, none⟩ (.string ⟨#[115, 112, 111, 105, 108, 116]⟩)) w5.heap.size (.slice (some ⟨g, 0, none⟩) Z.length zc) Y') := hid ⟨_, by rw [List.length_set]; exact hYl, hset⟩
        replace hset := hid hset
        replace hYo := hid hYo
        clear hfz
        go_wp2_with fail
        go_roundw
        case rel => exact ⟨j + 1, by omega, by go_num, hnew, B17⟩
        case measure => simp [intOf]; omega
      · have hje : j = Z.length := by omega
        have Bw : Below w.heap.size w wr := bnext B5 hb
        have kI := samea_any ia s k ic c K wr hQK.out (by omega) (iA5.out.below hb) (hAK.out.below Bw)
        subst hje
        go_wp2_with fail
        refine kI.mono ?_
        rintro e w17 ⟨rfl, hb17⟩
        have B17 := bnext Bw hb17
        go_wp2_with fail
        refine (kA _).mono ?_
        rintro e w18 ⟨rfl, hb18⟩
        have B18 := bnext B17 hb18
        go_wp2
        go_ret
        exact ⟨rfl, B18⟩

end Go.Proofs.Ytbemlgkaghnggaa
