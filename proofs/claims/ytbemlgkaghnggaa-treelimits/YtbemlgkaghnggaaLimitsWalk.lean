/- TreeLimits: changing one account's limit changes nothing else. -/
import Derived.Test.YtbemlgkaghnggaaAwake
namespace Go.Proofs.Ytbemlgkaghnggaa
open Go.RowKit

/-- The same names and parents. -/
def Alike (L M : List Acc) : Prop := M.length = L.length ∧ ∀ j, (accAt M j).1 = (accAt L j).1 ∧ (accAt M j).2.1 = (accAt L j).2.1

theorem Alike.take {L M : List Acc} (h : Alike L M) (k : Nat) : Alike (L.take k) (M.take k) := by
  refine ⟨by rw [List.length_take, List.length_take, h.1], fun j => ?_⟩
  rcases Nat.lt_or_ge j k with hj | hj
  · rw [accAt_take hj, accAt_take hj]; exact h.2 j
  · have e : ∀ K : List Acc, accAt (K.take k) j = (ByteArray.empty, ByteArray.empty, 0) := fun K => by
      simp only [accAt, List.getD_eq_getElem?_getD]
      rw [List.getElem?_eq_none (by rw [List.length_take]; omega)]; rfl
    rw [e, e]; exact ⟨rfl, rfl⟩

theorem Alike.fi {L M : List Acc} (h : Alike L M) (m : ByteArray) : fi M m = fi L m := by
  cases e : Ytbemlgkaghnggaa.fi L m with
  | none =>
    rw [fi_no] at e ⊢
    intro j hj
    rw [(h.2 j).1]
    exact e j (by rw [← h.1]; exact hj)
  | some i =>
    rw [fi_is] at e ⊢
    refine ⟨by rw [h.1]; exact e.1, by rw [(h.2 i).1]; exact e.2.1, fun j hj => by rw [(h.2 j).1]; exact e.2.2 j hj⟩

theorem Alike.ch {L M : List Acc} (h : Alike L M) : ∀ (k i : Nat), ch M k i = ch L k i
  | 0, i => rfl
  | k + 1, i => by
    simp only [Ytbemlgkaghnggaa.ch]
    rw [(h.2 i).1, (h.2 i).2, h.fi]
    cases Ytbemlgkaghnggaa.fi L (accAt L i).2.1 with
    | none => rfl
    | some j => simp only []; rw [h.ch k j]

theorem Alike.path {L M : List Acc} (h : Alike L M) (m : ByteArray) : pathP M m = pathP L m := by
  unfold pathP
  rw [h.fi]
  cases Ytbemlgkaghnggaa.fi L m with
  | none => rfl
  | some i => simp only []; exact h.ch _ _

theorem Alike.right {L M : List Acc} (h : Alike L M) (hR : rightB L = true) (hl : ∀ j, j < L.length → limB (accAt M j).2.2 = true) : rightB M = true := by
  rw [right_is] at hR ⊢
  refine ⟨by rw [h.1]; exact hR.1, by rw [h.1]; exact hR.2.1, fun i hi => ?_⟩
  rw [h.1] at hi
  have h1 := hR.2.2 i hi
  unfold fitsB at h1 ⊢
  rw [(h.2 i).1, (h.2 i).2, (h.take i).fi, (h.take i).fi, hl i hi]
  rw [(fits_is (hR.2.2 i hi)).2.2.2] at h1
  exact h1

theorem lim_at {L : List Acc} {n : ByteArray} {x : Int} (hR : rightB L = true) {i j : Nat} (hi : fi L n = some i) (hj : j < L.length) :
    accAt (limP L n x) j = ((accAt L j).1, (accAt L j).2.1, if (accAt L j).1 = n then x else (accAt L j).2.2) := by
  have hl := fi_lt hi
  have e : limP L n x = L.set i ((accAt L i).1, (accAt L i).2.1, x) := by unfold limP; rw [hi]
  rw [e]
  by_cases h : j = i
  · subst h
    rw [if_pos (fi_name hi)]
    simp [accAt, hj]
  · have hne : (accAt L j).1 ≠ n := fun h2 => by
      have h3 := right_name hR hj
      rw [h2, hi] at h3
      cases h3
      exact h rfl
    rw [if_neg hne]
    simp only [accAt, List.getD_eq_getElem?_getD]
    rw [List.getElem?_set_ne (fun h2 => h h2.symm)]

theorem lim_alike {L : List Acc} {n : ByteArray} {x : Int} (hR : rightB L = true) {i : Nat} (hi : fi L n = some i) : Alike L (limP L n x) := by
  refine ⟨lim_len L n x, fun j => ?_⟩
  rcases Nat.lt_or_ge j L.length with hj | hj
  · rw [lim_at hR hi hj]; exact ⟨rfl, rfl⟩
  · have e : ∀ K : List Acc, K.length ≤ j → accAt K j = (ByteArray.empty, ByteArray.empty, 0) := fun K hK => by
      simp only [accAt, List.getD_eq_getElem?_getD]
      rw [List.getElem?_eq_none hK]; rfl
    rw [e L hj, e _ (by rw [lim_len]; exact hj)]; exact ⟨rfl, rfl⟩

theorem lim_right {L : List Acc} {n : ByteArray} {x : Int} (hR : rightB L = true) {i : Nat} (hi : fi L n = some i) (hx : limB x = true) : rightB (limP L n x) = true :=
  (lim_alike hR hi).right hR fun j hj => by
    rw [lim_at hR hi hj]
    simp only []
    split
    · exact hx
    · exact (fits_is ((right_is.1 hR).2.2 j hj)).2.2.2

theorem lerr_ok {L : List Acc} {n : ByteArray} {x : Int} (h : lerrP L n x = 0) : limB x = true ∧ errP L n = 0 := by
  unfold lerrP at h
  by_cases h1 : limB x = true
  · rw [if_pos h1] at h; exact ⟨h1, h⟩
  · rw [if_neg h1] at h; omega

set_option maxRecDepth 100000 in
set_option maxHeartbeats 2000000 in
theorem limits_any (s : Option Addr) (k c : Nat) (L : List Acc) (n m : ByteArray) (x : Int) (w : World) (hn : L.length = k) (hl : k ≤ 4611686018427387904) (hkc : k ≤ c) (hat : AAt w s L) :
    Calls Try.prog 5 #[.slice s k c, .agg #[.string n, .string m], .int .i64 x] w fun e w' => e = .returned (.bool true) ∧ Below w.heap.size w w' := by
  have kA := fun w => awake_any w
  have bl := below_lit w (.cells #[.string n, .string m] 43)
  have k1 := fun w2 (hb : Below w.heap.size w w2) => limit_any s k c L n x w2 hn hl hkc (hat.below hb)
  by_cases hE : lerrP L n x = 0
  · obtain ⟨hx, hE1⟩ := lerr_ok hE
    obtain ⟨hR, i, hi⟩ := err_ok hE1
    have hal := lim_alike (x := x) hR hi
    have hRM := lim_right hR hi hx
    have hM := fun j (hj : j < L.length) => lim_at (x := x) hR hi hj
    have hMl := lim_len L n x
    rw [hn] at hMl
    rw [if_pos hE, hE] at k1
    have k2 := fun w2 (hb : Below w.heap.size w w2) => pathf_any s k c L m w2 hn hl hkc (hat.below hb)
    have hpp := hal.path m
    have hee : errP (limP L n x) m = errP L m := by unfold errP; rw [hRM, hR, hal.fi]
    have k3 := fun (a : Option Addr) (c : Nat) w2 (hc : k ≤ c) (h : AAt w2 a (limP L n x)) => pathf_any a k c (limP L n x) m w2 hMl hl hc h
    have k4 := fun (a : Option Addr) (c : Nat) w2 (hc : k ≤ c) (h : AAt w2 a (limP L n x)) => right_any a k c (limP L n x) w2 hMl hc h
    rw [hee, hpp] at k3
    rw [hRM] at k4
    have hTl : (if errP L m = 0 then pathP L m else []).length ≤ 16 := by
      split
      · rename_i h
        obtain ⟨_, q, hq⟩ := err_ok h
        have := path_len hq; have := fi_lt hq; have := (right_is.1 hR).2.1; omega
      · simp
    generalize (if errP L m = 0 then pathP L m else []) = T at *
    generalize errP L m = E at *
    replace hpp := hid hpp
    replace hee := hid hee
    replace hRM := hid hRM
    replace hal := hid hal
    replace hM := hid hM
    replace hR := hid hR
    replace hi := hid hi
    replace hE := hid hE
    replace hE1 := hid hE1
    replace hx := hid hx
    replace hn := hid hn
    replace hat := hid hat
    generalize hMM : limP L n x = M at *
    replace hMM := hid hMM
    go_enter Try.func5, Try.ntmps5
    go_wp2_with fail
    go_quiet (fail)
    have B0 := below_drewN bl nq
    go_wp2_with fail
    refine (k1 _ B0).mono ?_
    rintro e w1 ⟨ma, mc, rfl, hmc, hmo, hb1⟩
    have B1 := bnext B0 hb1
    rw [hMl] at hmc ⊢
    replace hmo := hmo.dat
    replace hMl := hid hMl
    go_wp2_with fail
    refine (k2 _ B1).mono ?_
    rintro e w2 ⟨ta, tc, rfl, htc, hto, hb2⟩
    have B2 := bnext B1 hb2
    replace hto := hto.tat
    replace hmo := hmo.below hb2
    go_wp2_with fail
    refine (k3 ma mc _ hmc hmo).mono ?_
    rintro e w3 ⟨ua, uc, rfl, huc, huo, hb3⟩
    have B3 := bnext B2 hb3
    replace huo := huo.tat
    replace hto := hto.below hb3
    replace hmo := hmo.below hb3
    have kR := k4 ma mc _ hmc hmo
    have kS := fun w4 (hb : Below w3.heap.size w3 w4) => samet_any ta ua T.length tc uc T w4 rfl (by omega) (hto.below hb) (huo.below hb)
    replace huo := hid huo
    replace hto := hid hto
    replace hmo := hid hmo
    go_wp2_with fail
    refine kR.mono ?_
    rintro e w4 ⟨rfl, hb4⟩
    go_wp2_with fail
    refine (kS _ hb4).mono ?_
    rintro e w5 ⟨rfl, hb5⟩
    have C5 := bnext hb4 hb5
    have B5 := bnext B3 C5
    go_wp2_with fail
    go_loopw [71] (fun i wr => ∃ j : Nat, j ≤ k ∧ i = .int .i64 (j : Int) ∧ Below w5.heap.size w5 wr) (fun i _ => k - (intOf i).toNat)
    case atStart => exact ⟨0, Nat.zero_le _, rfl, Below.refl _ _⟩
    case round =>
      obtain ⟨j, hj, rfl, hb⟩ := hrel
      have B6 := bnext B5 hb
      by_cases hlt : j < k
      · have hjL : j < L.length := by rw [hn.out]; exact hlt
        have hjM : j < M.length := by rw [hMl.out]; exact hlt
        obtain ⟨b, o, e⟩ := hat.out.place (by omega)
        subst e
        obtain ⟨b', o', e⟩ := hmo.out.place (by omega)
        subst e
        obtain ⟨x0, x1, x2⟩ := (hat.out.below B6).one hjL
        obtain ⟨y0, y1, y2⟩ := (hmo.out.below (bnext C5 hb)).one hjM
        rw [hM.out j hjL] at y0 y1 y2
        simp only [] at y0 y1 y2
        have bl6 := below_lit wr (.cells #[.string (accAt L j).1, .string (accAt L j).2.1, .int .i64 (accAt L j).2.2] 37)
        have z0 := stay bl6 y0
        have z1 := stay bl6 y1
        have z2 := stay bl6 y2
        have hb'l := World.block_lt_of_cell? wr _ y0
        by_cases hB : (accAt L j).1 = n
        · rw [if_pos hB] at y2 z2
          have he := text_eq hB
          have bl7 := below_lit wr (.cells #[.string (accAt L j).1, .string (accAt L j).2.1, .int .i64 x] 37)
          have B7 := bnext hb bl7
          replace hB := hid hB
          generalize accAt L j = X at *
          obtain ⟨X0, X1, X2⟩ := X
          dsimp only at *
          go_wp2_with fail
          go_quiet (fail)
          go_wp2_with fail
          go_roundw
          case rel => exact ⟨j + 1, by omega, by go_num, below_drewN B7 nq⟩
          case measure => simp [intOf]; omega
        · rw [if_neg hB] at y2 z2
          have he := text_ne hB
          have B7 := bnext hb bl6
          replace hB := hid hB
          generalize accAt L j = X at *
          obtain ⟨X0, X1, X2⟩ := X
          dsimp only at *
          go_wp2_with fail
          go_quiet (fail)
          go_wp2_with fail
          go_roundw
          case rel => exact ⟨j + 1, by omega, by go_num, below_drewN B7 nq⟩
          case measure => simp [intOf]; omega
      · have hje : j = k := by omega
        subst hje
        go_wp2_with fail
        refine (kA _).mono ?_
        rintro e w8 ⟨rfl, hb8⟩
        have B8 := bnext B6 hb8
        go_wp2
        go_ret
        exact ⟨rfl, B8⟩
  · rw [if_neg hE] at k1
    have h1 : (lerrP L n x == 0) = false := by simpa using hE
    replace hn := hid hn
    replace hat := hid hat
    generalize lerrP L n x = E at *
    go_enter Try.func5, Try.ntmps5
    go_wp2_with fail
    go_quiet (fail)
    have B0 := below_drewN bl nq
    go_wp2_with fail
    refine (k1 _ B0).mono ?_
    rintro e w1 ⟨ma, mc, rfl, hmc, hmo, hb1⟩
    have B1 := bnext B0 hb1
    replace hmo := hid hmo
    simp only [List.length_nil]
    go_wp2_with fail
    refine (kA _).mono ?_
    rintro e w8 ⟨rfl, hb8⟩
    have B8 := bnext B1 hb8
    go_wp2
    go_ret
    exact ⟨rfl, B8⟩

end Go.Proofs.Ytbemlgkaghnggaa
