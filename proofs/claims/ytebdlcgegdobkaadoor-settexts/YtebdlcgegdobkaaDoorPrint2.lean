/- The runs of a set, told to the closure; Print. -/
import Derived.Test.YtebdlcgegdobkaaDoorPrint
namespace Go.Proofs.YtebdlcgegdobkaaDoor
open Go.RowKit

theorem bit_not (x : Nat) (hx : x < 4294967296) (i : Nat) (hi : i < 32) : (4294967295 - x).testBit i = !x.testBit i := by
  have := Nat.testBit_two_pow_sub_succ (x := x) (n := 32) (by simpa using hx) i
  rw [show (2 : Nat) ^ 32 - (x + 1) = 4294967295 - x by omega] at this
  rw [this]; simp [hi]

theorem firsts_bit (s n : Nat) (hn : n < 32) : (s &&& (4294967295 - s * 2 % 4294967296)).testBit n = isFst s n := by
  rw [Nat.testBit_and, bit_not _ (Nat.mod_lt _ (by omega)) n hn]
  unfold isFst
  congr 2
  rw [show (4294967296 : Nat) = 2 ^ 32 by decide, Nat.testBit_mod_two_pow, show s * 2 = s <<< 1 by rw [Nat.shiftLeft_eq], Nat.testBit_shiftLeft]
  simp [hn]

theorem lasts_bit (s n : Nat) (hs : s < 4294967296) (hn : n < 32) : (s &&& (4294967295 - s / 2)).testBit n = isLst s n := by
  rw [Nat.testBit_and, bit_not _ (by omega) n hn]
  unfold isLst
  congr 2
  rw [show s / 2 = s >>> 1 by rw [Nat.shiftRight_eq_div_pow], Nat.testBit_shiftRight, Nat.add_comm]

theorem runsTo_len (s k : Nat) : (runsTo s k).2.length ≤ k := by
  induction k with
  | zero => simp [runsTo]
  | succ k ih =>
    unfold runsTo
    simp only
    split
    · simp; exact ih
    · omega

def Told (w0 w : World) (p : Nat) (T : List (List UInt8)) : Prop := ∃ v, TBlk w p v ∧ SOwn w (p + 1) v T ∧ Kp (fun k => p ≤ k) w0 w

set_option maxHeartbeats 800000 in
theorem each_any (s p : Nat) (hs : s < 4294967296) (w : World) (h : Told w w p []) :
    Calls Tryd.prog 30 #[.int .u32 (s : Int), .func (.func 31) #[] #[.pointer (some ⟨p, 0, none⟩)]] w fun e w' => e = .returned (.tuple #[]) ∧ Told w w' p ((runs s).map runT) := by
  have f1 : bits .andNot .u32 (s : Int) ((s : Int) * 2 % 4294967296) = ((s &&& (4294967295 - s * 2 % 4294967296) : Nat) : Int) := by
    rw [shl1]; exact u32_andNot_nat s _ hs (Nat.mod_lt _ (by omega))
  have f2 : bits .andNot .u32 (s : Int) ((s : Int) / 2) = ((s &&& (4294967295 - s / 2) : Nat) : Int) := by
    rw [show (s : Int) / 2 = ((s / 2 : Nat) : Int) by omega]; exact u32_andNot_nat s _ hs (by omega)
  obtain ⟨F, hF⟩ : ∃ F, F = s &&& (4294967295 - s * 2 % 4294967296) := ⟨_, rfl⟩
  obtain ⟨L, hL⟩ : ∃ L, L = s &&& (4294967295 - s / 2) := ⟨_, rfl⟩
  rw [← hF] at f1
  rw [← hL] at f2
  have lF : F < 4294967296 := by rw [hF]; exact Nat.lt_of_le_of_lt Nat.and_le_left hs
  have lL : L < 4294967296 := by rw [hL]; exact Nat.lt_of_le_of_lt Nat.and_le_left hs
  have bF : ∀ n, n < 32 → F.testBit n = isFst s n := fun n hn => by rw [hF]; exact firsts_bit s n hn
  have bL : ∀ n, n < 32 → L.testBit n = isLst s n := fun n hn => by rw [hL]; exact lasts_bit s n hs hn
  replace hF := hid hF; replace hL := hid hL
  go_enter Tryd.func30, Tryd.ntmps30
  go_wp2_with fail
  replace f1 := hid f1
  replace f2 := hid f2
  go_loopw [6, 16] (fun f i wr => ∃ j : Nat, j ≤ 32 ∧ f = .int .i64 ((runsTo s j).1 : Int) ∧ i = .int .i64 (j : Int) ∧ Told w wr p ((runsTo s j).2.map runT)) (fun _ i _ => 32 - (intOf i).toNat)
  case atStart => exact ⟨0, Nat.zero_le _, rfl, rfl, h⟩
  case round =>
    obtain ⟨j, hj, rfl, rfl, hT⟩ := hrel
    by_cases hlt : j < 32
    · have h1 := bF j hlt
      have h2 := bL j hlt
      have hlen := runsTo_len s j
      have hst : runsTo s (j + 1) = (if isFst s j then j else (runsTo s j).1, if isLst s j then (runsTo s j).2 ++ [(if isFst s j then j else (runsTo s j).1, j)] else (runsTo s j).2) := rfl
      have hok := (runInv s (j + 1)).ok
      cases e1 : isFst s j <;> cases e2 : isLst s j
      all_goals
        rw [e1, e2] at hst
        simp only [Bool.false_eq_true, if_false, if_true] at hst
        rw [e1] at h1
        rw [e2] at h2
      · replace hst := hid hst
        replace hT := hid hT
        go_wp2_with fail
        refine (has_any F j lF hlt _).mono ?_
        rintro e w1 ⟨rfl, rfl⟩
        rw [h1]
        go_wp2_with fail
        refine (has_any L j lL hlt _).mono ?_
        rintro e w2 ⟨rfl, rfl⟩
        rw [h2]
        go_wp2_with fail
        go_roundw
        case rel => exact ⟨j + 1, by omega, by rw [hst.out], by go_num, by rw [hst.out]; exact hT.out⟩
        case measure => simp [intOf]; omega
      · have hf : (runsTo s j).1 ≤ j := by
          have := hok ((runsTo s j).1, j) (by rw [hst]; simp)
          exact this.1
        generalize (runsTo s j).1 = f at *
        replace hst := hid hst
        obtain ⟨v, hb, ho, hk⟩ := hT
        replace hb := hid hb
        replace ho := hid ho
        go_wp2_with fail
        refine (has_any F j lF hlt _).mono ?_
        rintro e w1 ⟨rfl, rfl⟩
        rw [h1]
        go_wp2_with fail
        refine (has_any L j lL hlt _).mono ?_
        rintro e w2 ⟨rfl, rfl⟩
        rw [h2]
        go_wp2_with fail
        refine (tell_any p f j v _ (by omega) hlt _ hb.out ho.out (by simp; omega)).mono ?_
        rintro e w3 ⟨rfl, v3, hb3, ho3, hk3⟩
        replace hb3 := hid hb3
        replace ho3 := hid ho3
        go_wp2_with fail
        go_roundw
        case rel => exact ⟨j + 1, by omega, by rw [hst.out], by go_num, by rw [hst.out]; exact ⟨v3, hb3.out, by simpa using ho3.out, hk.trans hk3⟩⟩
        case measure => simp [intOf]; omega
      · replace hst := hid hst
        replace hT := hid hT
        go_wp2_with fail
        refine (has_any F j lF hlt _).mono ?_
        rintro e w1 ⟨rfl, rfl⟩
        rw [h1]
        go_wp2_with fail
        refine (has_any L j lL hlt _).mono ?_
        rintro e w2 ⟨rfl, rfl⟩
        rw [h2]
        go_wp2_with fail
        go_roundw
        case rel => exact ⟨j + 1, by omega, by rw [hst.out], by go_num, by rw [hst.out]; exact hT.out⟩
        case measure => simp [intOf]; omega
      · replace hst := hid hst
        obtain ⟨v, hb, ho, hk⟩ := hT
        replace hb := hid hb
        replace ho := hid ho
        go_wp2_with fail
        refine (has_any F j lF hlt _).mono ?_
        rintro e w1 ⟨rfl, rfl⟩
        rw [h1]
        go_wp2_with fail
        refine (has_any L j lL hlt _).mono ?_
        rintro e w2 ⟨rfl, rfl⟩
        rw [h2]
        go_wp2_with fail
        refine (tell_any p j j v _ (by omega) hlt _ hb.out ho.out (by simp; omega)).mono ?_
        rintro e w3 ⟨rfl, v3, hb3, ho3, hk3⟩
        replace hb3 := hid hb3
        replace ho3 := hid ho3
        go_wp2_with fail
        go_roundw
        case rel => exact ⟨j + 1, by omega, by rw [hst.out], by go_num, by rw [hst.out]; exact ⟨v3, hb3.out, by simpa using ho3.out, hk.trans hk3⟩⟩
        case measure => simp [intOf]; omega
    · have hje : j = 32 := by omega
      subst hje
      replace hT := hid hT
      go_wp2
      go_end0
      exact ⟨rfl, hT.out⟩

theorem runT_len (r : Nat × Nat) : (runT r).length ≤ 5 := by
  have h1 := dig_len r.1
  have h2 := dig_len r.2
  unfold runT
  split
  · omega
  · simp; omega

theorem tail_len (r : List (List UInt8)) (h : ∀ x ∈ r, x.length ≤ 5) : (Lib.joinTail [44] r).length ≤ 6 * r.length := by
  induction r with
  | nil => simp [Lib.joinTail]
  | cons x t ih =>
    have h1 := h x (by simp)
    have h2 := ih fun y hy => h y (by simp [hy])
    simp [Lib.joinTail] at h2 ⊢
    omega

theorem join_len (r : List (List UInt8)) (h : ∀ x ∈ r, x.length ≤ 5) : (Lib.join r [44]).length ≤ 6 * r.length := by
  cases r with
  | nil => simp [Lib.join_nil]
  | cons x t =>
    have h1 := h x (by simp)
    have h2 := tail_len t fun y hy => h y (by simp [hy])
    rw [Lib.join_cons]
    simp
    omega

theorem pr_len (s : Nat) : (pr s).length ≤ 192 := by
  unfold pr
  split
  · decide
  · have h1 := runsTo_len s 32
    have h2 := join_len ((runs s).map runT) (fun x hx => by obtain ⟨r, _, rfl⟩ := List.mem_map.1 hx; exact runT_len r)
    rw [List.length_map] at h2
    unfold runs at h2 ⊢
    omega

theorem print_any (s : Nat) (hs : s < 4294967296) (w : World) :
    Calls Tryd.prog 21 #[.int .u32 (s : Int)] w fun e w' => e = .returned (Str (pr s)) ∧ Below w.heap.size w w' := by
  by_cases h : s = 0
  · subst h
    go_enter Tryd.func21, Tryd.ntmps21
    go_wp2
    go_ret
    exact ⟨rfl, Below.refl _ _⟩
  · have hp := hid (show pr s = Lib.join ((runs s).map runT) [44] by unfold pr; rw [if_neg h])
    have hne := runs_ne hs h
    have hlen := runsTo_len s 32
    have d0 : decide (s = 0) = false := by simpa using h
    have d1 : ((s : Int) == 0) = false := by simpa using h
    have hT : Told (w.alloc (.cells #[.slice none 0 0] 47)) (w.alloc (.cells #[.slice none 0 0] 47)) w.heap.size [] := ⟨.slice none 0 0, by unfold TBlk; exact heap_alloc_new w _, by unfold SOwn; exact World.ownsRow_nil _ _ _ _, Kp.refl _ _⟩
    have bl := below_lit w (.cells #[.slice none 0 0] 47)
    replace hT := hid hT
    go_enter Tryd.func21, Tryd.ntmps21
    go_wp2_with fail
    refine (each_any s w.heap.size hs _ hT.out).mono ?_
    rintro e w1 ⟨rfl, v, hb, ho, hk⟩
    obtain ⟨a, c, rfl, hc⟩ := owns_form ho
    obtain ⟨b, o, rfl, hcells⟩ := owns_cat ho (by simpa using hne)
    obtain ⟨xs, hxs⟩ : ∃ xs : List ByteArray, xs = (runs s).map fun r => ⟨(runT r).toArray⟩ := ⟨_, rfl⟩
    have hl : ((runs s).map runT).length = xs.length := by rw [hxs]; simp
    have hm : xs.map (·.data.toList) = (runs s).map runT := by rw [hxs, List.map_map]; apply List.map_congr_left; intro r _; rfl
    have hbk : b < w1.heap.size := World.block_lt_of_cell? w1 _ (hcells 0 (by simp; exact List.length_pos_iff.2 hne))
    have hcs : ∀ (j : Nat) x, xs[j]? = some x → w1.cell? ⟨b, o + j, none⟩ = some (.string x) := by
      intro j x hj
      have hjl : j < xs.length := (List.getElem?_eq_some_iff.1 hj).1
      rw [hcells j (by rw [List.length_map, hl]; exact hjl)]
      rw [List.getElem?_eq_getElem hjl] at hj
      cases hj
      simp [hxs, Str]
    have hN : xs.length ≤ 140737488355328 := by rw [← hl, List.length_map]; unfold runs; omega
    have hj := join_lib b o c xs ⟨#[44]⟩ w1 hcs hbk hN (by rw [← hl]; exact hc) (by rw [hm]; have hpl := pr_len s; rw [hp.out] at hpl; show (Lib.join _ [44]).length ≤ _; omega)
    rw [hm] at hj
    rw [hl] at hb
    have c0 := hb.cell
    have B1 : Below w.heap.size w w1 := bl.trans (hk.below (fun k h => h) bl.size)
    obtain ⟨J, hJ⟩ : ∃ J, J = (Lib.join ((runs s).map runT) [44]) := ⟨_, rfl⟩
    replace hj : Calls Tryd.prog 33 #[.slice (some ⟨b, o, none⟩) xs.length c, .string ⟨#[44]⟩] w1 fun e w' => e = .returned (.string ⟨J.toArray⟩) ∧ Below w1.heap.size w1 w' := by rw [hJ]; exact hj
    clear hcs hcells hm hxs ho hk hc hbk hN
    generalize xs.length = n at *
    replace hJ := hid hJ
    replace hl := hid hl
    replace hb := hid hb
    replace hne := hid hne
    go_wp2_with fail
    refine hj.mono ?_
    rintro e w2 ⟨rfl, hb2⟩
    go_wp2
    go_ret
    rw [hp.out, ← hJ.out]
    exact ⟨rfl, bnext B1 hb2⟩

end Go.Proofs.YtebdlcgegdobkaaDoor
