/- What oneOf answers: the field that stands at the place. -/
import Derived.Test.YtkkdiciadkcmmaaOneBase
namespace Go.Proofs.Ytkkdiciadkcmmaa
open Go.RowKit

set_option maxRecDepth 100000 in
set_option maxHeartbeats 4000000 in
theorem one_else {w0 : World} (a : Option Addr) (len cap gb ga gw gn : Nat) (l : List UInt8) (s : St) (w : World) (hl : l.length = len) (hlen : len ≤ 100000) (hcap : len ≤ cap) (hat : At w0 a l) (h : Tk w0 w a len cap gb ga gw gn s) (hK : (tkN l 1 (tkN l 1 s).2).1 ≠ 3 ∧ (tkN l 1 (tkN l 1 s).2).1 ≠ 4) :
    Calls Try.prog 34 #[tkVal gb ga gw gn] w fun e w' => ∃ it : It, e = .returned it.val ∧ it.fd = (tkOne l s).1 ∧ ItOwn w' w.heap.size it ∧ Tk w0 w' a len cap gb ga gw gn (tkOne l s).2 ∧ Kp (Two ga gw) w w' := by
  obtain ⟨A, hA⟩ : ∃ A, A = tkN l 1 s := ⟨_, rfl⟩
  obtain ⟨C, hC⟩ : ∃ C, C = tkN l 1 A.2 := ⟨_, rfl⟩
  have hCl : C.1 < 256 := by rw [hC]; exact tkN_lt l 1 A.2
  have hAl : A.1 < 256 := by rw [hA]; exact tkN_lt l 1 s
  replace hA := hid hA
  replace hC := hid hC
  replace hK := hid hK
  unfold tkVal
  go_enter Try.func34, Try.ntmps34
  go_wp2_with fail
  refine (small_any a len cap gb ga gw gn l s _ hl hlen hat ((h.below (below_lit w _)).below (below_lit _ _))).mono ?_
  rintro e w1 ⟨rfl, ht1, hk1⟩
  rw [← hA.out] at ht1 ⊢
  obtain ⟨htb1, hrb1, hk1', hz1⟩ := begin_one h hk1
  have ht2 := ht1.below (below_lit w1 (.cells #[.int .u8 (A.1 : Int), .int .u8 0, .int .i64 0, .string ByteArray.empty, .slice none 0 0, .slice none 0 0] 30))
  have hst2 : Stand w0 w _ a len cap gb ga gw gn w1.heap.size A.2 _ _ _ _ _ _ := ⟨ht2, htb1.below (below_lit w1 _), ⟨_, _, _, _, _, _, hrb1.below (below_lit w1 _)⟩, heap_alloc_new w1 _, hk1'.then (below_lit w1 _), by omega, h.bel.size⟩
  obtain ⟨t0, t1, t2, t3, t4, t5⟩ := htb1.six
  have hgl : w.heap.size < w1.heap.size := by omega
  go_wp2_with fail
  refine (small_any a len cap gb ga gw gn l A.2 _ hl hlen hat ht2).mono ?_
  rintro e w2 ⟨rfl, ht3, hk3⟩
  rw [← hC.out] at ht3 ⊢
  have hst3 := hst2.call ht3 hk3
  generalize w1.heap.size = g3 at *
  clear hst2 ht2 ht1 hk1 hk3 ht3 t0 t1 t2 t3 t4 t5 htb1 hrb1 hk1' hz1 hgl
  have f1 := hst3.fb.six.c1
  have ff1 := hst3.fb.free 1
  have hst4 := hst3.set (hst3.fb.set1 (.int .u8 (C.1 : Int)))
  have hE := hid (tkOne_eq l s A C hA.out hC.out)
  obtain ⟨d0, d1, d2, d3, d4, d5⟩ := hst4.fb.six
  obtain ⟨t0, t1, t2, t3, t4, t5⟩ := hst4.tb.six
  clear hst3
  by_cases e1 : C.1 = 1
  · have b1 : ((C.1 : Int) == 1) = true := by rw [e1]; rfl
    rw [if_pos e1] at hE
    replace e1 := hid e1
    go_wp2_with fail
    refine (num_any a len cap gb ga gw gn l C.2 _ hl hlen hat hst4.tk).mono ?_
    rintro e w5 ⟨rfl, ht5, hk5⟩
    have hst5 := hst4.call ht5 hk5
    have y1 := hst5.fb.six.c2
    have y2 := hst5.fb.free 2
    have hst6 := hst5.set (hst5.fb.set2 (.int .i64 (tkI l C.2).1))
    have hfin := hst6.fin (.int .u8 (A.1 : Int)) (.int .u8 (C.1 : Int)) (.int .i64 (tkI l C.2).1) (.string ByteArray.empty) (.slice none 0 0) (.slice none 0 0)
    obtain ⟨x0, x1, x2, x3, x4, x5⟩ := hst6.fb.six
    obtain ⟨p0, p1, p2, p3, p4, p5, hrb⟩ := hst6.rb
    obtain ⟨r0, r1, r2, r3, r4, r5⟩ := hrb.six
    have s0 := hrb.free 0
    have s1 := hrb.free 1
    have s2 := hrb.free 2
    have s3 := hrb.free 3
    have s4 := hrb.free 4
    have s5 := hrb.free 5
    clear hst4 hst5
    go_wp2
    (try simp only [Exit.inBlock, Exit.then]); refine bodyPost_ret (results_field rfl _ _ (w.heap.size + 1) _ _ _ _ _ _ rfl hfin.1) rfl ?_
    refine ⟨⟨⟨UInt8.ofNat A.1, UInt8.ofNat C.1, (tkI l C.2).1, ByteArray.empty, [], []⟩, none, 0, none, 0⟩, by rw [val_eq _ _ hAl hCl]; rfl, by rw [hE.out], ⟨Nums.nil _ _, Txts.nil _ _⟩, by rw [hE.out]; exact hfin.2.1, hfin.2.2⟩
  · have n1 : ((C.1 : Int) == 1) = false := by rw [beq_eq_false_iff_ne]; omega
    rw [if_neg e1] at hE
    replace e1 := hid e1
    by_cases e2 : C.1 = 2
    · have b2 : ((C.1 : Int) == 2) = true := by rw [e2]; rfl
      rw [if_pos e2] at hE
      replace e2 := hid e2
      go_wp2_with fail
      refine (txt_any a len cap gb ga gw gn l C.2 _ hl hlen hcap hat hst4.tk).mono ?_
      rintro e w5 ⟨rfl, ht5, hk5⟩
      have hst5 := hst4.call ht5 hk5
      have y1 := hst5.fb.six.c3
      have y2 := hst5.fb.free 3
      have hst6 := hst5.set (hst5.fb.set3 (.string (tkT l C.2).1))
      have hfin := hst6.fin (.int .u8 (A.1 : Int)) (.int .u8 (C.1 : Int)) (.int .i64 0) (.string (tkT l C.2).1) (.slice none 0 0) (.slice none 0 0)
      obtain ⟨x0, x1, x2, x3, x4, x5⟩ := hst6.fb.six
      obtain ⟨p0, p1, p2, p3, p4, p5, hrb⟩ := hst6.rb
      obtain ⟨r0, r1, r2, r3, r4, r5⟩ := hrb.six
      have s0 := hrb.free 0
      have s1 := hrb.free 1
      have s2 := hrb.free 2
      have s3 := hrb.free 3
      have s4 := hrb.free 4
      have s5 := hrb.free 5
      clear hst4 hst5
      go_wp2
      (try simp only [Exit.inBlock, Exit.then]); refine bodyPost_ret (results_field rfl _ _ (w.heap.size + 1) _ _ _ _ _ _ rfl hfin.1) rfl ?_
      refine ⟨⟨⟨UInt8.ofNat A.1, UInt8.ofNat C.1, 0, (tkT l C.2).1, [], []⟩, none, 0, none, 0⟩, by rw [val_eq _ _ hAl hCl]; rfl, by rw [hE.out], ⟨Nums.nil _ _, Txts.nil _ _⟩, by rw [hE.out]; exact hfin.2.1, hfin.2.2⟩
    · have n2 : ((C.1 : Int) == 2) = false := by rw [beq_eq_false_iff_ne]; omega
      rw [if_neg e2] at hE
      replace e2 := hid e2
      by_cases e3 : C.1 = 3
      · exact absurd (by rw [← hA.out, ← hC.out]; exact e3) hK.out.1
      · have n3 : ((C.1 : Int) == 3) = false := by rw [beq_eq_false_iff_ne]; omega
        rw [if_neg e3] at hE
        replace e3 := hid e3
        by_cases e4 : C.1 = 4
        · exact absurd (by rw [← hA.out, ← hC.out]; exact e4) hK.out.2
        · have n4 : ((C.1 : Int) == 4) = false := by rw [beq_eq_false_iff_ne]; omega
          rw [if_neg e4] at hE
          replace e4 := hid e4
          have hfin := hst4.fin (.int .u8 (A.1 : Int)) (.int .u8 (C.1 : Int)) (.int .i64 0) (.string ByteArray.empty) (.slice none 0 0) (.slice none 0 0)
          obtain ⟨x0, x1, x2, x3, x4, x5⟩ := hst4.fb.six
          obtain ⟨p0, p1, p2, p3, p4, p5, hrb⟩ := hst4.rb
          obtain ⟨r0, r1, r2, r3, r4, r5⟩ := hrb.six
          have s0 := hrb.free 0
          have s1 := hrb.free 1
          have s2 := hrb.free 2
          have s3 := hrb.free 3
          have s4 := hrb.free 4
          have s5 := hrb.free 5
          go_wp2
          (try simp only [Exit.inBlock, Exit.then]); refine bodyPost_ret (results_field rfl _ _ (w.heap.size + 1) _ _ _ _ _ _ rfl hfin.1) rfl ?_
          refine ⟨⟨⟨UInt8.ofNat A.1, UInt8.ofNat C.1, 0, ByteArray.empty, [], []⟩, none, 0, none, 0⟩, by rw [val_eq _ _ hAl hCl]; rfl, by rw [hE.out], ⟨Nums.nil _ _, Txts.nil _ _⟩, by rw [hE.out]; exact hfin.2.1, hfin.2.2⟩
end Go.Proofs.Ytkkdiciadkcmmaa
