/- The document's cut. -/
import Derived.Test.YtomdghodbkhkaaaGreatDoorRct1
import Derived.Test.YtomdghodbkhkaaaGreatDoorRl
namespace Go.Proofs.YtomdghodbkhkaaaGreatDoor
open Go.RowKit
set_option linter.unusedVariables false
set_option linter.unusedSimpArgs false

theorem new_row2 (w : World) (e : Nat) (cs : List Value) (base : Nat) (h : base ≤ w.heap.size) : (w.alloc (.cells cs.toArray e)).ownsRow base e cs.length (.slice (some ⟨w.heap.size, 0, none⟩) 1 1) 1 cs :=
  ⟨by omega, .inr ⟨w.heap.size, 1, cs.toArray, rfl, h, heap_alloc_new w _, Nat.le_refl _, by unfold maxLen; omega, by simp, by simp⟩⟩
theorem info9c : (Tryz.prog.info? 9).map (fun i => (i.zero, i.size, i.bytes)) = some (some (.string ByteArray.empty), 1, 16) := by kernel_rfl
theorem pcs_small (c : UInt8) (l : List UInt8) : (pcs c l).length ≤ l.length + 1 ∧ ∀ p ∈ pcs c l, p.length ≤ l.length := by
  induction l with
  | nil => simp [pcs]
  | cons x t ih =>
    obtain ⟨p, ps, hp⟩ := List.exists_cons_of_ne_nil (pcs_ne c t)
    by_cases hx : x = c
    · subst hx
      rw [pcs_hit]
      refine ⟨by simp; omega, fun q hq => ?_⟩
      rcases List.mem_cons.1 hq with rfl | hq
      · simp
      · have := ih.2 q hq; simp; omega
    · rw [pcs_miss hx hp]
      rw [hp] at ih
      refine ⟨by have := ih.1; simp at this ⊢; omega, fun q hq => ?_⟩
      rcases List.mem_cons.1 hq with rfl | hq
      · have := ih.2 p (by simp); simp; omega
      · have := ih.2 q (by simp [hq]); simp; omega
theorem map_lastB {T : List (List UInt8)} {m : Nat} (h : T.length = m + 1) (B : UInt8) : (T.map Str).set m (.string ((⟨(T.getD m []).toArray⟩ : ByteArray) ++ (⟨#[B]⟩ : ByteArray))) = (lastB T B).map Str := by
  have e : (⟨(T.getD m []).toArray⟩ : ByteArray) ++ (⟨#[B]⟩ : ByteArray) = ⟨(T.getD m [] ++ [B]).toArray⟩ := str_add _ [B]
  rw [e]
  unfold lastB
  rw [h, Nat.add_sub_cancel, List.map_set]
  rfl

set_option maxRecDepth 100000 in
set_option maxHeartbeats 2000000 in
theorem cutd_any (c : UInt8) (l : List UInt8) (hl : l.length ≤ 400) (w : World) :
    Calls Tryz.prog 20 #[Str l, .int .u8 (c.toNat : Int)] w fun e w' => ∃ a cc, e = .returned (.slice a (pcs c l).length cc) ∧ SOwn w' w.heap.size (.slice a (pcs c l).length cc) (pcs c l) ∧ Below w.heap.size w w' := by
  obtain ⟨i0, hi, hz0, hz1, hz2⟩ := info_parts info9c
  obtain ⟨s, hs, hsz, hget, hS, hdl⟩ := str_facts l
  have hix : ∀ (i : Nat) (hi : i < l.length) (w : World), (Instr.index 9 (.string s) (.int .i64 (i : Int))).run Tryz.prog w = .ok (.int .u8 (l[i].toNat : Int)) w := fun i hi w => by
    subst hs
    rw [run_index_string w 9 _ .i64 i Tryz.underlying9, dif_pos ⟨by omega, by show (i : Int) < ((l.length : Nat) : Int); omega⟩]
    rfl
  rw [hS]
  have hst : SOwn (w.alloc (.cells #[.string ⟨#[]⟩] 9)) w.heap.size (.slice (some ⟨w.heap.size, 0, none⟩) 1 1) (pcs c (l.take 0)) := new_row2 w 9 [Str []] w.heap.size (Nat.le_refl _)
  have hb0 := below_lit w (.cells #[.string ⟨#[]⟩] 9)
  replace hst := hid hst
  replace hb0 := hid hb0
  replace hs := hid hs
  replace hS := hid hS
  replace hdl := hid hdl
  replace hget := hid hget
  replace hix := hid hix
  go_enter Tryz.func20, Tryz.ntmps20
  go_wp2_with fail
  go_loopw [5, 6] (fun v i wr => ∃ j : Nat, j ≤ l.length ∧ i = .int .i64 (j : Int) ∧ Hid (SOwn wr w.heap.size v (pcs c (l.take j))) ∧ Hid (Below w.heap.size w wr)) (fun _ i _ => l.length - (intOf i).toNat)
  case atStart => exact ⟨0, Nat.zero_le _, rfl, hst, hb0⟩
  case round =>
    obtain ⟨j, hj, rfl, hown, hb⟩ := hrel
    by_cases hlt : j < l.length
    · have hx := hix.out j hlt
      have hnx := pcs_take (c := c) hlt
      obtain ⟨hT1, hT2⟩ := pcs_small c (l.take j)
      have hT3 : (l.take j).length ≤ 400 := by rw [List.length_take]; omega
      have hT0 : pcs c (l.take j) ≠ [] := pcs_ne _ _
      generalize pcs c (l.take j) = T at *
      generalize l[j] = B at *
      obtain ⟨m, hm⟩ : ∃ m, T.length = m + 1 := ⟨T.length - 1, by have := List.length_pos_iff.2 hT0; omega⟩
      have hown' := hown.out
      unfold SOwn at hown'
      rw [hm] at hown'
      obtain ⟨g, cc, rfl, hg1, hg2, hg3, hg4⟩ := owns_spot hown' (Nat.succ_pos m)
      by_cases hc : B = c
      · rw [if_pos hc] at hnx
        have d1 : ((B.toNat : Int) == (c.toNat : Int)) = true := by rw [hc]; simp
        have bl := below_lit wr (.cells #[.string ⟨#[]⟩] 9)
        have B1 := bnext hb.out bl
        have hown2 := hid (owns_below hown' bl)
        have hcat := hid (cat_lit wr 9 [Str []] #[.string ⟨#[]⟩] rfl)
        have hone := hid (str_one [])
        have hmax : m + 1 + 1 ≤ maxLen := by unfold maxLen; omega
        have hbd : (m + 1 + 1) * 16 ≤ 140737488355328 := by omega
        replace hown' := hid hown'
        replace hnx := hid hnx
        replace hc := hid hc
        clear hT2 hg4
        go_wp2_with (at_builtin; refine Hid.out ?_)
        refine wpList_cat _ rfl (.tmp 19) (.tmp 20) 57 rfl w.heap.size 9 i0 _ 1 16 Tryz.underlying57 hi hz0 hz1 hz2 rfl (by omega) _ _ _ rfl hown2.out (some ⟨wr.heap.size, 0, none⟩) 1 1 [Str []] rfl rfl hcat.out hone.out hmax hbd B1.size ?_
        intro v' w4 ho4 hg4 hv4
        have B4 : Below w.heap.size w w4 := Below.grown B1 hg4 B1.size (fun j hj => (hown2.out.lt _ hj).1)
        have ho5 : SOwn w4 w.heap.size v' (pcs c (l.take (j + 1))) := by
          rw [hnx.out]
          unfold SOwn
          rw [List.length_append, List.map_append, hm]
          exact ho4
        replace ho5 := hid ho5
        replace B4 := hid B4
        clear ho4 hg4 hv4 hcat
        go_wp2_with fail
        go_roundw
        case rel => exact ⟨j + 1, by omega, by go_num, ho5, B4⟩
        case measure => simp [intOf]; omega
      · rw [if_neg hc] at hnx
        have d1 : ((B.toNat : Int) == (c.toNat : Int)) = false := by
          have : ¬ (B.toNat : Int) = (c.toNat : Int) := fun h => hc (UInt8.toNat_inj.1 (by omega))
          simpa using this
        have hxm : (T.map Str)[m]? = some (.string (⟨(T.getD m []).toArray⟩ : ByteArray)) := by
          rw [List.getElem?_map, List.getElem?_eq_getElem (by omega)]
          simp [Str, List.getD_eq_getElem?_getD, List.getElem?_eq_getElem (show m < T.length by omega)]
        have hzb : (⟨(T.getD m []).toArray⟩ : ByteArray).size ≤ 1000 := by
          show (T.getD m []).length ≤ 1000
          have e : T.getD m [] = T[m]'(by omega) := by simp [List.getD_eq_getElem?_getD, List.getElem?_eq_getElem (show m < T.length by omega)]
          rw [e]
          have := hT2 _ (List.getElem_mem (show m < T.length by omega))
          omega
        have hmp := map_lastB hm B
        have hm1000 : m ≤ 1000 := by omega
        have hjS : j < s.size := by omega
        have hix2 := hid (fun w => hix.out j hlt w)
        replace hown' := hid hown'
        replace hnx := hid hnx
        replace hc := hid hc
        replace hxm := hid hxm
        replace hmp := hid hmp
        have hxx := hid hx
        clear hT2 hg4
        go_upto_region 7 with fail
        refine Code.wp_mono nrm_of ?_
        refine cut_r7 hxx hown' hxm hg2 hm1000 hzb hjS (hid ?_)
        intro d22 d23 d24 d25 d26 d27 d28 d29 d30 d31 d32 d33 d34 d35 d36 d37 d38 w7 R7 K7
        have ho5 : SOwn w7 w.heap.size (.slice (some ⟨g, 0, none⟩) (m + 1) cc) (pcs c (l.take (j + 1))) := by
          rw [hnx.out]
          unfold SOwn
          rw [lastB_len, hm, ← hmp.out]
          exact R7
        have B4 := hid (hb.out.trans (K7.below (base := w.heap.size) (fun i hi => by omega) hb.out.size))
        replace ho5 := hid ho5
        clear R7 K7
        go_wp2_with fail
        go_roundw
        case rel => exact ⟨j + 1, by omega, by go_num, ho5, B4⟩
        case measure => simp [intOf]; omega
    · have hje : j = l.length := by omega
      rw [hje, List.take_length] at hown
      obtain ⟨va, vc, rfl, hvc⟩ := owns_form hown.out
      have dj : decide ((j : Int) < (s.size : Int)) = false := decide_eq_false (by omega)
      replace hje := hid hje
      go_wp2
      go_ret
      exact ⟨va, vc, rfl, hown.out, hb.out⟩
end Go.Proofs.YtomdghodbkhkaaaGreatDoor
