/- eachRun. -/
import Derived.Test.YtomdghodbkhkaaaGreatDoorEr
import Derived.Test.YtomdghodbkhkaaaGreatDoorPrs
namespace Go.Proofs.YtomdghodbkhkaaaGreatDoor
open Go.RowKit
set_option linter.unusedVariables false
set_option linter.unusedSimpArgs false

/-- Ahead of the place j these runs were told. -/
def EI (N : List Nat) (j : Nat) (T : List (List UInt8)) : Prop := (runsL N).map textR = T ++ (runsL (N.drop j)).map textR ∧ T.length ≤ j
theorem EI.start (N : List Nat) : EI N 0 [] := ⟨by simp, by simp⟩
theorem EI.done {N : List Nat} {j : Nat} {T : List (List UInt8)} (h : EI N j T) (hj : N.length ≤ j) : (runsL N).map textR = T := by
  have := h.1
  rw [List.drop_eq_nil_of_le hj, runsL_nil] at this
  simpa using this
theorem drop_cons {N : List Nat} {j : Nat} (h : j < N.length) : N.drop j = N.getD j 0 :: N.drop (j + 1) := by
  rw [List.drop_eq_getElem_cons h]; simp [h]
theorem EI.one {N : List Nat} {j : Nat} {T : List (List UInt8)} (h : EI N j T) (hj : j < N.length) (he : evn (N.drop j) ≤ 2) : EI N (j + 1) (T ++ [textR (N.getD j 0, N.getD j 0, 1)]) := by
  obtain ⟨h1, h2⟩ := h
  refine ⟨?_, by simp; omega⟩
  rw [drop_cons hj] at h1 he
  rw [runsL_cons, if_pos he] at h1
  rw [h1]; simp
theorem EI.run {N : List Nat} {j e : Nat} {T : List (List UInt8)} (h : EI N j T) (hj : j + 1 < N.length) (he : evn (N.drop j) = e - j + 1) (hje : j + 2 ≤ e) : EI N (e + 1) (T ++ [textR (N.getD j 0, N.getD e 0, N.getD (j + 1) 0 - N.getD j 0)]) := by
  obtain ⟨h1, h2⟩ := h
  refine ⟨?_, by simp; omega⟩
  rw [drop_cons (by omega)] at h1 he
  rw [runsL_cons, if_neg (by omega), he] at h1
  rw [h1]
  have e1 : (N.getD j 0 :: N.drop (j + 1)).drop (e - j + 1) = N.drop (e + 1) := by
    rw [← drop_cons (by omega), List.drop_drop]; congr 1; omega
  have e2 : (N.getD j 0 :: N.drop (j + 1)).getD (e - j + 1 - 1) 0 = N.getD e 0 := by
    rw [← drop_cons (by omega)]
    simp [List.getElem?_drop]
    congr 2; omega
  have e3 : (N.drop (j + 1)).getD 0 0 = N.getD (j + 1) 0 := by simp [List.getElem?_drop]
  rw [e1, e2, e3]
  simp

theorem even_drop {N : List Nat} {j e : Nat} (h : j + 1 < N.length) (hr : N.getD j 0 < N.getD (j + 1) 0) (h3 : j + 2 ≤ e) (he : e + 1 ≤ N.length) :
    evB (((cs N).drop j).take (e + 1 - j)) ((N.getD (j + 1) 0 : Nat) - (N.getD j 0 : Nat) : Int) = true ↔ e + 1 - j ≤ evn (N.drop j) := by
  have e1 : (cs N).drop j = cs (N.drop j) := by unfold cs; rw [List.map_drop]
  rw [evB_iff, e1, drop_cons (by omega), drop_cons (N := N) (j := j + 1) h]
  exact even_iff hr (by omega) (by simp only [List.length_cons, List.length_drop]; omega)
theorem run_ok {N : List Nat} {j e : Nat} (hN : listN N) (hj : j + 1 < N.length) (he : evn (N.drop j) = e - j + 1) (hje : j + 2 ≤ e) : okR (N.getD j 0, N.getD e 0, N.getD (j + 1) 0 - N.getD j 0) := by
  obtain ⟨h1, h2⟩ := EI.run (N := N.drop j) (j := 0) (e := e - j) (T := []) (EI.start _) (by rw [List.length_drop]; omega) (by rw [List.drop_zero, he]; omega) (by omega)
  have hg := (runs_good (N.drop j).length (N.drop j) (Nat.le_refl _) (fun n hn => hN.2.2.1 n (List.mem_of_mem_drop hn)) (hN.2.2.2.sublist (List.drop_sublist _ _))).1
  have hc := drop_cons (N := N) (j := j) (by omega)
  have hm : (N.getD j 0, N.getD e 0, N.getD (j + 1) 0 - N.getD j 0) ∈ runsL (N.drop j) := by
    rw [hc] at he ⊢
    rw [runsL_cons, if_neg (by omega), he]
    have e2 : (N.getD j 0 :: N.drop (j + 1)).getD (e - j + 1 - 1) 0 = N.getD e 0 := by
      rw [← drop_cons (by omega)]
      simp [List.getElem?_drop]
      congr 2; omega
    have e3 : (N.drop (j + 1)).getD 0 0 = N.getD (j + 1) 0 := by simp [List.getElem?_drop]
    rw [e2, e3]
    exact List.mem_cons_self
  exact hg _ hm

set_option maxRecDepth 100000 in
set_option maxHeartbeats 8000000 in
theorem each_any (b o k c p : Nat) (N : List Nat) (v : Value) (w : World) (hn : N.length = k) (hkc : k ≤ c) (hN : listN N) (hat : IAt w (some ⟨b, o, none⟩) (cs N)) (hbp : b < p) (hp2 : p + 1 ≤ w.heap.size) (h1p : 1 < p) (ht : Tb w) (hp : TBlk 57 w p v) (ho : SOwn w (p + 1) v []) :
    Calls Tryz.prog 23 #[.slice (some ⟨b, o, none⟩) k c, .func (.func 24) #[] #[ptr p]] w fun e w' => e = .returned (.tuple #[]) ∧ ∃ v', TBlk 57 w' p v' ∧ SOwn w' (p + 1) v' ((runsL N).map textR) ∧ Kp (fun k => p ≤ k) w w' := by
  obtain ⟨n1, n32, nb, nr⟩ := hN
  have hval : ∀ i, i < k → N.getD i 0 ≤ 9999 := fun i hi => by
    rw [List.getD_eq_getElem?_getD, List.getElem?_eq_getElem (by omega), Option.getD_some]
    exact nb _ (List.getElem_mem _)
  have hris : ∀ i, i + 1 < k → N.getD i 0 < N.getD (i + 1) 0 := fun i hi => by
    unfold Rise at nr
    rw [List.pairwise_iff_getElem] at nr
    have := nr i (i + 1) (by omega) (by omega) (by omega)
    rw [List.getD_eq_getElem?_getD, List.getElem?_eq_getElem (by omega), Option.getD_some, List.getD_eq_getElem?_getD, List.getElem?_eq_getElem (by omega), Option.getD_some]
    exact this
  have hcell : Hid (∀ w1, Kp (fun k => p ≤ k) w w1 → ∀ j, j < k → w1.cell? ⟨b, o + j, none⟩ = some (.int .i64 ((N.getD j 0 : Nat) : Int))) := hid (fun w1 hk j hj => by
    have h1 : IAt w1 (some ⟨b, o, none⟩) (cs N) := CAt.kp hat hk (fun x hx => by cases hx; show ¬ p ≤ b; omega)
    have h2 := h1.one (i := j) (by rw [cs_len]; omega)
    rw [h2, cs_at (by omega)])
  have hpre : Hid (∀ w1, Kp (fun k => p ≤ k) w w1 → ∀ j m, j + m ≤ k → IAt w1 (some ⟨b, o + j, none⟩) (((cs N).drop j).take m)) := hid (fun w1 hk j m hjm => by
    intro hne
    refine ⟨b, o + j, rfl, fun i hi => ?_⟩
    have hl : ((((cs N).drop j).take m).flatMap ic).length = m := by
      rw [flat_len ic 1 ic_len, List.length_take, List.length_drop, cs_len]; omega
    have hi2 := hi
    rw [hl] at hi2
    have h1 := hcell.out w1 hk (j + i) (by omega)
    rw [← Nat.add_assoc] at h1
    rw [h1]
    simp only [ic_map]
    simp [cs, show j + i < N.length by omega])
  have hN2 : Hid (listN N) := hid ⟨n1, n32, nb, nr⟩
  have ht2 := hid ht
  have hk1 : 1 ≤ k := by omega
  have hk32 : k ≤ 32 := by omega
  replace hn := hid hn
  replace hval := hid hval
  replace hris := hid hris
  have hp2 := hp2
  go_enter Tryz.func23, Tryz.ntmps23
  go_wp2_with fail
  go_step3
  go_wp2_with fail
  go_step3
  go_wp2_with fail
  go_loopw [4] (fun i wr => ∃ (j : Nat) (T : List (List UInt8)) (v2 : Value), j ≤ k ∧ i = .int .i64 (j : Int) ∧ Hid (EI N j T) ∧ Hid (TBlk 57 wr p v2) ∧ Hid (SOwn wr (p + 1) v2 T) ∧ Hid (Kp (fun k => p ≤ k) w wr)) (fun i _ => k - (intOf i).toNat)
  case atStart => exact ⟨0, [], v, Nat.zero_le _, rfl, hid (EI.start N), hid hp, hid ho, hid (Kp.refl _ _)⟩
  case round =>
    obtain ⟨j, T, v2, hj, rfl, hei, hp3, ho3, hk3⟩ := hrel
    by_cases hlt : j < k
    · have d1 : decide (((j : Nat) : Int) < (k : Int)) = true := decide_eq_true (by omega)
      obtain ⟨wo, hwo⟩ : ∃ wo, wo = wr := ⟨_, rfl⟩
      subst hwo
      have hevl := hid (evn_le (N.drop j))
      go_wp2_with fail
      go_loopw [4, 5] (fun y x wr => ∃ e : Nat, e + 1 ≤ k ∧ y = .int .i64 ((j : Nat) : Int) ∧ x = .int .i64 ((e : Nat) : Int) ∧ Hid (evn (N.drop j) ≤ e - j + 1 ∧ j ≤ e) ∧ Hid (TBlk 57 wr p v2) ∧ Hid (SOwn wr (p + 1) v2 T) ∧ Hid (Kp (fun k => p ≤ k) w wr)) (fun _ x _ => (intOf x).toNat)
      case atStart => exact ⟨k - 1, by omega, rfl, by congr 1; omega, hid ⟨by have := hevl.out; rw [List.length_drop, hn.out] at this; omega, by omega⟩, hp3, ho3, hk3⟩
      case round =>
        obtain ⟨e, he, rfl, rfl, hev, hp4, ho4, hk4⟩ := hrel
        obtain ⟨hev1, hev2⟩ := hev.out
        clear hev
        replace hev1 := hid hev1
        by_cases h3 : j + 2 ≤ e
        · have d2 : decide (((j : Nat) : Int) + 2 ≤ (e : Int)) = true := decide_eq_true (by omega)
          have x0 := hcell.out wr hk4.out j hlt
          have x1 := hcell.out wr hk4.out (j + 1) (by omega)
          have x1' := x1
          rw [← Nat.add_assoc] at x1'
          have y0 := hval.out j hlt
          have y1 := hval.out (j + 1) (by omega)
          have hjs := hris.out j (by omega)
          obtain ⟨X, hX⟩ : ∃ X, X = N.getD j 0 := ⟨_, rfl⟩
          obtain ⟨Y, hY⟩ : ∃ Y, Y = N.getD (j + 1) 0 := ⟨_, rfl⟩
          rw [← hX] at x0 y0 hjs
          rw [← hY] at x1 x1' y1 hjs
          replace hX := hid hX
          replace hY := hid hY
          have hwr : IntKind.i64.wrap ((Y : Int) - (X : Int)) = (Y : Int) - (X : Int) := by rw [IntKind.wrap_i64]; omega
          have hw1 : IntKind.i64.wrap (((j : Nat) : Int) + 1) = ((j + 1 : Nat) : Int) := by rw [IntKind.wrap_i64]; omega
          go_wp2_with fail
          go_quiet (fail)
          have K5 := hid (hk4.out.then (below_drewN (Below.refl _ _) nq))
          have hp5 := hid (hp4.out.below (below_drewN (Below.refl _ _) nq))
          have ho5 := hid (owns_below ho4.out (below_drewN (Below.refl _ _) nq))
          generalize wr.drewN nq = W5 at *
          have c1 : (0 : Int) ≤ (j : Int) := by omega
          have c2 : ((j : Nat) : Int) ≤ (e : Int) + 1 := by omega
          have c3 : ((e : Nat) : Int) + 1 ≤ (c : Int) := by omega
          clear x0 x1 x1'
          go_wp2_with fail
          have hl9 : (((cs N).drop j).take (e + 1 - j)).length = e + 1 - j := by rw [List.length_take, List.length_drop, cs_len, hn.out]; omega
          have kE := even_any b (o + j) (e + 1 - j) (c - j) _ ((Y : Int) - (X : Int)) W5 hl9 (by omega) (hpre.out W5 K5.out j (e + 1 - j) (by omega)) (fun i hi => by
            have := hval.out (j + i) (by omega)
            have e1 : itAt (((cs N).drop j).take (e + 1 - j)) i = ((N.getD (j + i) 0 : Nat) : Int) := by
              have hji : j + i < N.length := by rw [hn.out]; omega
              rw [← cs_at hji]
              unfold itAt
              rw [List.getD_eq_getElem?_getD, List.getD_eq_getElem?_getD, List.getElem?_take, if_pos (by omega), List.getElem?_drop]
            rw [e1]; omega)
          have hiff := even_drop (N := N) (j := j) (e := e) (by rw [hn.out]; omega) (by rw [← hX.out, ← hY.out]; exact hjs) h3 (by rw [hn.out]; omega)
          rw [← hX.out, ← hY.out] at hiff
          generalize evB (((cs N).drop j).take (e + 1 - j)) ((Y : Int) - (X : Int)) = E at *
          clear hl9
          cases E
          · have hev5 : evn (N.drop j) ≤ e - 1 - j + 1 := by
              rcases Nat.lt_or_ge (evn (N.drop j)) (e + 1 - j) with h | h
              · omega
              · exact absurd (hiff.2 h) (by simp)
            replace hev5 := hid hev5
            clear hiff
            refine kE.mono ?_
            rintro e1 w6 ⟨rfl, hb6⟩
            have K6 := hid (K5.out.then hb6)
            have hp6 := hid (hp5.out.below hb6)
            have ho6 := hid (owns_below ho5.out hb6)
            dsimp only
            go_wp2_with fail
            go_roundw
            case rel => exact ⟨e - 1, by omega, rfl, by congr 1; omega, hid ⟨hev5.out, by omega⟩, hp6, ho6, K6⟩
            case measure => simp [intOf]; omega
          · have hev5 : evn (N.drop j) = e - j + 1 := by have := hiff.1 rfl; have := hev1.out; omega
            have hei2 := hid (EI.run hei.out (by rw [hn.out]; omega) hev5 h3)
            have hokr := run_ok (N := N) (j := j) (e := e) hN2.out (by rw [hn.out]; omega) hev5 h3
            rw [← hX.out, ← hY.out] at hei2 hokr
            obtain ⟨V, hV⟩ : ∃ V, V = N.getD e 0 := ⟨_, rfl⟩
            rw [← hV] at hei2 hokr
            replace hV := hid hV
            have hTl := hei.out.2
            replace hev5 := hid hev5
            clear hiff
            refine kE.mono ?_
            rintro e1 w6 ⟨rfl, hb6⟩
            have K6 := hid (K5.out.then hb6)
            have hp6 := hid (hp5.out.below hb6)
            have ho6 := hid (owns_below ho5.out hb6)
            have ht6 := hid (ht2.out.kp K6.out (by omega))
            dsimp only
            go_upto_region 8 with fail
            rw [show ((Y : Int) - (X : Int)) = ((Y - X : Nat) : Int) by omega]
            refine Code.wp_mono nrm_of ?_
            refine each_r8 (hid (fun w1 hk1 => by have := hcell.out w1 (K6.out.trans hk1) j hlt; rw [← hX.out] at this; exact this)) (hid (fun w1 hk1 => by have := hcell.out w1 (K6.out.trans hk1) e (by omega); rw [← hV.out] at this; exact this)) hlt (by omega) hokr (by omega) ht6 hp6 ho6 (hid ?_)
            intro d39 d40 d41 d42 d43 d44 d45 d46 d47 d48 d49 d50 v7 w7 tp7 to7 tk7
            have K7 := hid (K6.out.trans tk7)
            replace tp7 := hid tp7
            replace to7 := hid to7
            clear K5 hp5 ho5 kE
            go_wp2_with fail
            go_roundw
            case rel => exact ⟨e + 1, T ++ [textR (X, V, Y - X)], v7, by omega, by go_num, hei2, tp7, to7, K7⟩
            case measure => simp [intOf]; omega
        · have d2 : decide (((j : Nat) : Int) + 2 ≤ (e : Int)) = false := decide_eq_false (by omega)
          have hei2 := hid (EI.one hei.out (by rw [hn.out]; exact hlt) (by have := hev1.out; omega))
          have y0 := hval.out j hlt
          have hTl := hei.out.2
          obtain ⟨X, hX⟩ : ∃ X, X = N.getD j 0 := ⟨_, rfl⟩
          rw [← hX] at hei2 y0
          replace hX := hid hX
          have ht6 := hid (ht2.out.kp hk4.out (by omega))
          go_upto_region 10 with fail
          refine Code.wp_mono nrm_of ?_
          refine each_r10 (hid (fun w1 hk1 => by have := hcell.out w1 (hk4.out.trans hk1) j hlt; rw [← hX.out] at this; exact this)) hlt ⟨Nat.le_refl _, y0, by simp, by simp, fun _ => rfl⟩ (by omega) ht6 hp4 ho4 (hid ?_)
          intro d52 d53 d54 d55 d56 d57 d58 d59 d60 d61 d62 v7 w7 tp7 to7 tk7
          have K7 := hid (hk4.out.trans tk7)
          replace tp7 := hid tp7
          replace to7 := hid to7
          go_wp2_with fail
          go_roundw
          case rel => exact ⟨j + 1, T ++ [textR (X, X, 1)], v7, by omega, by go_num, hei2, tp7, to7, K7⟩
          case measure => simp [intOf]; omega
    · have hje : j = k := by omega
      have hf := hid (hei.out.done (by have := hn.out; omega))
      have d1 : decide (((j : Nat) : Int) < (k : Int)) = false := decide_eq_false (by omega)
      subst hje
      go_wp2
      rw [Exit.noGoto_normal]
      go_end0
      rw [hf.out]
      exact ⟨rfl, v2, hp3.out, ho3.out, hk3.out⟩
end Go.Proofs.YtomdghodbkhkaaaGreatDoor

namespace Go.Proofs.YtomdghodbkhkaaaGreatDoor
open Go.RowKit
set_option linter.unusedVariables false
set_option linter.unusedSimpArgs false

theorem runs_ne {N : List Nat} (h : listN N) : runsL N ≠ [] := by
  intro e
  have k2 := (runs_good N.length N (Nat.le_refl _) h.2.2.1 h.2.2.2).2.1
  rw [e] at k2
  have h1 := h.1
  rw [← k2] at h1
  simp [flat] at h1
theorem prT_len {N : List Nat} (h : listN N) : (prT N).length ≤ 400 := by
  obtain ⟨k1, k2, k3⟩ := runs_good N.length N (Nat.le_refl _) h.2.2.1 h.2.2.2
  have h2 := h.2.1
  unfold prT
  cases e : runsL N with
  | nil => exact absurd e (runs_ne h)
  | cons r t =>
    rw [e] at k3
    rw [List.map_cons, Lib.join_cons, List.length_append, Lib.joinTail_length]
    simp only [List.map_cons, Lib.lens, List.sum_cons, List.length_cons, List.length_map] at k3 ⊢
    simp only [List.length_nil]
    omega
theorem runs_many {N : List Nat} (h : listN N) : (runsL N).length ≤ 160 := by
  have := (runs_good N.length N (Nat.le_refl _) h.2.2.1 h.2.2.2).2.2
  have := h.2.1
  omega

/-- What Print tells. -/
def PrTold (L : List Int) (e : Ending) : Prop := (¬ ListP L ∧ e = .returned (.tuple #[.string ⟨#[]⟩, .int .i64 2])) ∨ ∃ N, L = cs N ∧ listN N ∧ e = .returned (.tuple #[Str (prT N), .int .i64 0])

set_option maxRecDepth 100000 in
set_option maxHeartbeats 1600000 in
theorem print_any (a : Option Addr) (k c : Nat) (L : List Int) (w : World) (hn : L.length = k) (hl : k ≤ 4611686018427387904) (hkc : k ≤ c) (hat : IAt w a L) (ht : Tb w) :
    Calls Tryz.prog 8 #[.slice a k c] w fun e w' => PrTold L e ∧ Below w.heap.size w w' := by
  have kl := list_any a k c L w hn hl hat
  by_cases hL : ListP L
  · rw [listB_yes hL] at kl
    obtain ⟨N, hN, hlN⟩ := list_cs hL
    have hNk : N.length = k := by rw [← hn, hN, cs_len]
    obtain ⟨b, o, rfl⟩ := hat.place (by rw [hn, ← hNk]; exact hlN.1)
    have hblt : b < w.heap.size := CAt.lt hat (by
      intro e
      have : (L.flatMap ic).length = 0 := by rw [e]; rfl
      rw [flat_len ic 1 ic_len] at this
      have := hlN.1
      omega) ⟨b, o, none⟩ rfl
    have h1p := ht.lt
    rw [hN] at hat
    have hpt := hid (show PrTold L (.returned (.tuple #[Str (prT N), .int .i64 0])) from .inr ⟨N, hN, hlN, rfl⟩)
    have hpl := prT_len hlN
    have hrn := runs_ne hlN
    have hrm := runs_many hlN
    generalize PrTold L = PT at *
    clear hL hN hn
    replace hlN := hid hlN
    replace hNk := hid hNk
    replace hat := hid hat
    replace ht := hid ht
    obtain ⟨Js, hJs⟩ : ∃ Js, Js = (runsL N).map textR := ⟨_, rfl⟩
    have hJl : Js.length = (runsL N).length := by rw [hJs, List.length_map]
    have hpr : Lib.join Js [44] = prT N := by rw [hJs]; rfl
    have hj0 : 0 < Js.length := by rw [hJl]; exact List.length_pos_iff.2 hrn
    go_enter Tryz.func8, Tryz.ntmps8
    go_wp2_with fail
    refine kl.mono ?_
    rintro e w1 ⟨rfl, hb1⟩
    go_wp2_with fail
    have bl := below_lit w1 (.cells #[.slice none 0 0] 57)
    have B2 := bnext hb1 bl
    have s1 := hb1.size
    have t2 : TBlk 57 (w1.alloc (.cells #[.slice none 0 0] 57)) w1.heap.size (.slice none 0 0) := heap_alloc_new _ _
    have o2 : SOwn (w1.alloc (.cells #[.slice none 0 0] 57)) (w1.heap.size + 1) (.slice none 0 0) [] := World.ownsRow_nil _ _ _ _
    have kE := each_any b o k c w1.heap.size N (.slice none 0 0) _ hNk.out hkc hlN.out (CAt.below hat.out B2) (by omega) (by rw [size_lit]; omega) (by omega) (ht.out.below B2) t2 o2
    rw [← hJs] at kE
    replace hJs := hid hJs
    replace t2 := hid t2
    replace o2 := hid o2
    refine kE.mono ?_
    rintro e w3 ⟨rfl, v3, t3, o3, k3⟩
    obtain ⟨g, c3, rfl, hg1, hg2, hnc, hfz⟩ := owns_spot o3 hj0
    have hc3 := owns_cat o3
    have y0 := t3.cell
    have hcells : ∀ (j : Nat) (x : ByteArray), (Js.map fun l => (⟨l.toArray⟩ : ByteArray))[j]? = some x → w3.cell? ⟨g, 0 + j, none⟩ = some (.string x) := fun j x hx => by
      obtain ⟨b2, o2', e2, hc4⟩ := hc3 (by intro e9; have e8 : (Js.map Str).length = 0 := (by rw [e9]; rfl); rw [List.length_map] at e8; omega)
      cases e2
      rw [List.getElem?_map] at hx
      cases e : Js[j]? with
      | none => rw [e] at hx; cases hx
      | some q =>
        rw [e] at hx
        have hjl : j < Js.length := (List.getElem?_eq_some_iff.1 e).1
        have h5 := hc4 j (by simpa using hjl)
        rw [h5]
        simp only [Option.map_some, Option.some.injEq] at hx
        rw [← hx, List.getElem_map]
        rw [List.getElem?_eq_getElem hjl] at e
        simp only [Option.some.injEq] at e
        rw [e]
        rfl
    have hjo : Lib.join ((Js.map fun l => (⟨l.toArray⟩ : ByteArray)).map (·.data.toList)) [44] = prT N := by
      rw [List.map_map, ← hpr]
      congr 1
      exact (List.map_congr_left fun x _ => rfl).trans (List.map_id _)
    have kJ := join_lib g 0 c3 (Js.map fun l => (⟨l.toArray⟩ : ByteArray)) ⟨#[44]⟩ w3 hcells hg2 (by rw [List.length_map]; omega) (by rw [List.length_map]; exact hnc) (by
      show (Lib.join _ [44]).length ≤ _
      rw [hjo]; omega)
    replace kJ : Calls Tryz.prog 26 #[.slice (some ⟨g, 0, none⟩) Js.length c3, .string ⟨#[44]⟩] w3 fun e w' => e = .returned (Str (prT N)) ∧ Below w3.heap.size w3 w' := by
      have h6 := kJ
      rw [List.length_map] at h6
      rw [show Lib.join ((Js.map fun l => (⟨l.toArray⟩ : ByteArray)).map (·.data.toList)) (⟨#[44]⟩ : ByteArray).data.toList = prT N from hjo] at h6
      exact h6
    have B3 := B2.trans (k3.below (fun k hk => Nat.le_trans s1 hk) B2.size)
    generalize Js.length = n at *
    clear hcells hjo hc3 o3 t3 k3 hJl hpr hj0
    go_wp2_with fail
    refine kJ.mono ?_
    rintro e w4 ⟨rfl, hb4⟩
    go_wp2
    go_ret2
    exact ⟨hpt.out, bnext B3 hb4⟩
  · rw [listB_no hL] at kl
    have hpt := hid (show PrTold L (.returned (.tuple #[.string ⟨#[]⟩, .int .i64 2])) from .inl ⟨hL, rfl⟩)
    generalize PrTold L = PT at *
    clear hL
    replace hn := hid hn
    replace hat := hid hat
    go_enter Tryz.func8, Tryz.ntmps8
    go_wp2_with fail
    refine kl.mono ?_
    rintro e w1 ⟨rfl, hb1⟩
    go_wp2
    go_ret2
    exact ⟨hpt.out, hb1⟩
end Go.Proofs.YtomdghodbkhkaaaGreatDoor
