/- NetNumbers. -/
import Derived.Test.YtgjjgfppolmkoaaNumBase
namespace Go.Proofs.Ytgjjgfppolmkoaa
open Go.RowKit Go.Maps

/-- Behind so many packets that were sent. -/
def NI (w1 wr : World) (p m j : Nat) : Prop := ∃ L, NAt wr p m L j ∧ nums L = upTo j ∧ Kp (Turn p m) w1 wr

set_option maxRecDepth 100000 in
set_option maxHeartbeats 2000000 in
theorem numbers_any (w : World) : Calls Try.prog 3 #[] w fun e w' => e = .returned (.bool true) ∧ Below w.heap.size w w' := by
  go_enter Try.func3, Try.ntmps3
  go_wp2_with fail
  refine (new_any _).mono ?_
  rintro e w1 ⟨p, m, rfl, hp, hm, h1, b1⟩
  go_wp2_with (at_make; refine wpList_zeros _ rfl (.const (.int .i64 65546)) (.const (.int .i64 65546)) rfl 65546 65546 rfl rfl rfl (by omega) ?_; intro w2 Z2 hZ2 hrow2 hb2; replace hZ2 := hid hZ2)
  have h2 := h1.below hb2
  refine (send_long 0 0 _ 65546 65546 _ h2 (by omega)).mono ?_
  rintro e w3 ⟨rfl, rfl⟩
  go_wp2_with (at_make; refine wpList_zeros _ rfl (.const (.int .i64 65545)) (.const (.int .i64 65545)) rfl 65545 65545 rfl rfl rfl (by omega) ?_; intro w4 Z4 hZ4 hrow4 hb4; replace hZ4 := hid hZ4)
  have h4 := h2.below hb4
  refine (send_ok (-1) 4611686018427387904 _ 65545 65545 Z4 _ h4 hZ4.out (by omega) (by omega) (by simp) hrow4.at).mono ?_
  rintro e w5 ⟨q1, rfl, n1, _, _, _, _, h5, k5⟩
  have K5 : Kp (Turn p m) w1 w5 := ((Kp.of_below hb2).then hb4).trans k5
  have N5 : nums ([] ++ [q1]) = upTo 1 := by show [q1.num] = _; rw [n1]; rfl
  replace N5 := hid N5
  replace n1 := hid n1
  replace h5 := hid h5
  replace h4 := hid h4
  replace h2 := hid h2
  replace hrow2 := hid hrow2
  replace hrow4 := hid hrow4
  clear h1 h2 h4
  go_wp2_with fail
  go_loopw [6] (fun i wr => ∃ j : Nat, 1 ≤ j ∧ j ≤ 256 ∧ i = .int .i64 ((j : Int) + 1) ∧ NI w1 wr p m j) (fun i _ => 257 - (intOf i).toNat)
  case atStart => exact ⟨1, by omega, by omega, rfl, _, h5.out, N5.out, K5⟩
  case round =>
    obtain ⟨j, hj1, hj, rfl, L, hL, hN, hK⟩ := hrel
    have hlen : L.length = j := by have := congrArg List.length hN; rw [upTo_len] at this; simpa [nums] using this
    by_cases hlt : j < 256
    · have hd : decide ((j : Int) + 1 ≤ 256) = true := decide_eq_true (by omega)
      replace hN := hid hN
      replace hlen := hid hlen
      go_wp2_with fail
      refine (send_ok 0 0 none 0 0 [] _ hL rfl (by omega) (by omega) (by have := hlen.out; omega) (at_nil _ _)).mono ?_
      rintro e w6 ⟨q6, rfl, n6, _, _, _, _, h6, k6⟩
      have ej : ((j + 1 : Nat) : Int) = (j : Int) + 1 := by omega
      rw [ej]
      have hne : (((j : Int) + 1) != ((j : Int) + 1)) = false := by simp
      replace ej := hid ej
      replace h6 := hid h6
      replace n6 := hid n6
      go_wp2_with fail
      go_roundw
      case rel => exact ⟨j + 1, by omega, by omega, by go_num, _, h6.out, by rw [nums_snoc, hN.out, n6.out, upTo_succ, ej.out], hK.trans k6⟩
      case measure => simp [intOf]; omega
    · obtain rfl : j = 256 := by omega
      clear n1 N5 h5 K5 k5 hrow2 hrow4 hZ2 hZ4
      have i1 : (1 : Int) ∈ nums L := by rw [hN]; exact upTo_mem 256 0 (by omega)
      have i9 : (9 : Int) ∈ nums L := by rw [hN]; exact upTo_mem 256 8 (by omega)
      have hr := hL.rise
      have i257 : (257 : Int) ∉ nums L := by
        intro h
        obtain ⟨q, hq, e⟩ := List.mem_map.1 h
        have := (hL.nums q hq).2
        omega
      obtain ⟨q1, f1⟩ := find_ex i1
      obtain ⟨q9, f9⟩ := find_ex i9
      have f257 := find_out i257
      have hd9 := del_len_in hr i9
      have j1 : (1 : Int) ∈ nums (delP L 9) := by rw [nums_del]; exact List.mem_filter.2 ⟨i1, by decide⟩
      obtain ⟨r1, g1⟩ := find_ex j1
      replace hN := hid hN
      replace hlen := hid hlen
      replace f1 := hid f1
      replace f9 := hid f9
      replace g1 := hid g1
      replace f257 := hid f257
      replace hd9 := hid hd9
      replace i1 := hid i1
      replace i9 := hid i9
      replace j1 := hid j1
      replace i257 := hid i257
      go_wp2_with fail
      refine (send_full 0 0 none 0 0 _ hL (by omega) (by have := hlen.out; omega)).mono ?_
      rintro e w6 ⟨rfl, rfl⟩
      go_wp2_with (at_make; refine wpList_zeros _ rfl (.const (.int .i64 65546)) (.const (.int .i64 65546)) rfl 65546 65546 rfl rfl rfl (by omega) ?_; intro w7 Z7 hZ7 hrow7 hb7; replace hZ7 := hid hZ7; replace hrow7 := hid hrow7)
      have h7 := hL.below hb7
      refine (send_long 0 0 _ 65546 65546 _ h7 (by omega)).mono ?_
      rintro e w8 ⟨rfl, rfl⟩
      go_wp2_with fail
      refine (double_full 1 q1 _ h7 (wf_i (by omega) (by omega)) f1.out (by have := hlen.out; omega)).mono ?_
      rintro e w9 ⟨rfl, b9⟩
      have h9 := h7.below b9
      go_wp2_with fail
      refine (double_bad _ 257 80 _ rfl (find_no 257 _ h9 (wf_i (by omega) (by omega)) f257.out)).mono ?_
      rintro e w10 ⟨rfl, b10⟩
      have h10 := h9.below b10
      go_wp2_with fail
      refine (drop_yes 9 q9 _ h10 (wf_i (by omega) (by omega)) f9.out).mono ?_
      rintro e w11 ⟨rfl, h11, k11⟩
      have K11 := (((hK.then hb7).then b9).then b10).trans k11
      clear h7 h9 h10
      go_wp2_with fail
      refine (double_yes 1 r1 _ h11 (wf_i (by omega) (by omega)) g1.out (by omega) (by have := hlen.out; have := hd9.out; omega)).mono ?_
      rintro e w12 ⟨rfl, h12, k12⟩
      have K12 := K11.trans k12
      have j0 : (0 : Int) ∉ nums (delP L 9 ++ [(⟨(256 + 1 : Nat), r1.fr, r1.to, r1.a, r1.c, r1.body⟩ : Pk)]) := by
        intro h
        obtain ⟨q, hq, e⟩ := List.mem_map.1 h
        have := (h12.nums q hq).1
        omega
      have j9 : (9 : Int) ∉ nums (delP L 9 ++ [(⟨(256 + 1 : Nat), r1.fr, r1.to, r1.a, r1.c, r1.body⟩ : Pk)]) := by
        rw [nums_snoc, nums_del]
        simp
      have e12 : (delP L 9 ++ [(⟨(256 + 1 : Nat), r1.fr, r1.to, r1.a, r1.c, r1.body⟩ : Pk)]).length = 256 := by
        rw [List.length_append]; have := hlen.out; have := hd9.out; simp; omega
      replace j0 := hid (find_out j0)
      replace j9 := hid (find_out j9)
      replace e12 := hid e12
      obtain ⟨L12, hL12⟩ : ∃ L', L' = delP L 9 ++ [(⟨(256 + 1 : Nat), r1.fr, r1.to, r1.a, r1.c, r1.body⟩ : Pk)] := ⟨_, rfl⟩
      rw [← hL12] at h12 j0 j9 e12
      replace hL12 := hid hL12
      clear h11
      go_wp2_with fail
      refine (deliver_bad _ 0 80 _ rfl (fun w1 hb => find_no 0 _ (h12.below hb) (wf_i (by omega) (by omega)) j0.out)).mono ?_
      rintro e w13 ⟨rfl, b13⟩
      unfold zeroV
      have bl13 := below_lit w13 (.cells #[.int .i64 0, .int .i64 0, .int .i64 0, .slice none 0 0] 31)
      have h13 := (h12.below b13).below bl13
      replace h12 := hid h12
      go_wp2_with fail
      refine (drop_bad _ 9 80 _ rfl (find_no 9 _ h13 (wf_i (by omega) (by omega)) j9.out)).mono ?_
      rintro e w14 ⟨rfl, b14⟩
      have h14 := h13.below b14
      go_wp2_with fail
      refine (list_any _ h14 (by rw [e12.out]; omega) (by omega)).mono ?_
      rintro e w15 ⟨v, Q, rfl, hQ, hP, b15⟩
      have hQl : Q.length = 256 := by have := congrArg List.length hQ; rw [List.length_map, List.length_map, e12.out] at this; exact this
      have hrow := hP.row
      rw [hQl] at hrow
      obtain ⟨la, lc, rfl, _⟩ := owns_form hrow
      have K15 := ((((K12.then b13).then bl13).then b14).then b15)
      replace hrow := hid hrow
      replace hQ := hid hQ
      replace hQl := hid hQl
      replace hP := hid hP
      go_wp2_with fail
      refine (awake_any _).mono ?_
      rintro e w16 ⟨rfl, b16⟩
      go_wp2
      go_ret
      exact ⟨rfl, b1.trans ((K15.then b16).below (fun k e => by rcases e with e | e <;> omega) b1.size)⟩
end Go.Proofs.Ytgjjgfppolmkoaa
