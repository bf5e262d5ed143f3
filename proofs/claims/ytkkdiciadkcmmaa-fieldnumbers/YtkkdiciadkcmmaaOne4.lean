/- What oneOf answers of texts. -/
import Derived.Test.YtkkdiciadkcmmaaOneBase
import Derived.Deep.RegionHeld
namespace Go.Proofs.Ytkkdiciadkcmmaa
open Go.RowKit

theorem six_of' {w v : World} {gb ga gw gn : Nat} (h : TB v w.heap.size gb ga gw gn) : (fun w' : World => w'.cell? ⟨w.heap.size, 0, none⟩ = some (.func (.func 49) #[] #[.pointer (some ⟨gb, 0, none⟩), .pointer (some ⟨ga, 0, none⟩), .pointer (some ⟨gn, 0, none⟩)]) ∧ w'.cell? ⟨w.heap.size, 1, none⟩ = some (.func (.func 51) #[] #[.pointer (some ⟨gb, 0, none⟩), .pointer (some ⟨ga, 0, none⟩), .pointer (some ⟨gn, 0, none⟩)]) ∧ w'.cell? ⟨w.heap.size, 2, none⟩ = some (.func (.func 53) #[] #[.pointer (some ⟨gb, 0, none⟩), .pointer (some ⟨ga, 0, none⟩), .pointer (some ⟨gn, 0, none⟩)]) ∧ w'.cell? ⟨w.heap.size, 3, none⟩ = some (.func (.func 55) #[] #[.pointer (some ⟨gb, 0, none⟩), .pointer (some ⟨ga, 0, none⟩), .pointer (some ⟨gn, 0, none⟩)]) ∧ w'.cell? ⟨w.heap.size, 4, none⟩ = some (.func (.func 57) #[] #[.pointer (some ⟨gw, 0, none⟩)]) ∧ w'.cell? ⟨w.heap.size, 5, none⟩ = some (.func (.func 58) #[] #[.pointer (some ⟨gw, 0, none⟩), .pointer (some ⟨ga, 0, none⟩), .pointer (some ⟨gb, 0, none⟩)])) v := by
  obtain ⟨h0, h1, h2, h3, h4, h5⟩ := h.six
  exact ⟨h0, h1, h2, h3, h4, h5⟩

set_option maxRecDepth 100000 in
set_option maxHeartbeats 4000000 in
theorem one_txts {w0 : World} (a : Option Addr) (len cap gb ga gw gn : Nat) (l : List UInt8) (s : St) (w : World) (hl : l.length = len) (hlen : len ≤ 100000) (hcap : len ≤ cap) (hat : At w0 a l) (h : Tk w0 w a len cap gb ga gw gn s) (hK : (tkN l 1 (tkN l 1 s).2).1 = 4) :
    Calls Try.prog 34 #[tkVal gb ga gw gn] w fun e w' => ∃ it : It, e = .returned it.val ∧ it.fd = (tkOne l s).1 ∧ ItOwn w' w.heap.size it ∧ Tk w0 w' a len cap gb ga gw gn (tkOne l s).2 ∧ Kp (Two ga gw) w w' := by
  obtain ⟨A, hA⟩ : ∃ A, A = tkN l 1 s := ⟨_, rfl⟩
  obtain ⟨C, hC⟩ : ∃ C, C = tkN l 1 A.2 := ⟨_, rfl⟩
  have hCl : C.1 < 256 := by rw [hC]; exact tkN_lt l 1 A.2
  have hAl : A.1 < 256 := by rw [hA]; exact tkN_lt l 1 s
  replace hA := hid hA
  replace hC := hid hC
  replace hK := hid hK
  unfold tkVal
  go_enter Try.func34, Try.ntmps34
  go_wp2_with fail
  refine (small_any a len cap gb ga gw gn l s _ hl hlen hat ((h.below (below_lit w _)).below (below_lit _ _))).mono ?_
  rintro e w1 ⟨rfl, ht1, hk1⟩
  rw [← hA.out] at ht1 ⊢
  obtain ⟨htb1, hrb1, hk1', hz1⟩ := begin_one h hk1
  have ht2 := ht1.below (below_lit w1 (.cells #[.int .u8 (A.1 : Int), .int .u8 0, .int .i64 0, .string ByteArray.empty, .slice none 0 0, .slice none 0 0] 30))
  have hst2 : Stand w0 w _ a len cap gb ga gw gn w1.heap.size A.2 _ _ _ _ _ _ := ⟨ht2, htb1.below (below_lit w1 _), ⟨_, _, _, _, _, _, hrb1.below (below_lit w1 _)⟩, heap_alloc_new w1 _, hk1'.then (below_lit w1 _), by omega, h.bel.size⟩
  obtain ⟨t0, t1, t2, t3, t4, t5⟩ := htb1.six
  have hgl : w.heap.size < w1.heap.size := by omega
  go_wp2_with fail
  refine (small_any a len cap gb ga gw gn l A.2 _ hl hlen hat ht2).mono ?_
  rintro e w2 ⟨rfl, ht3, hk3⟩
  rw [← hC.out] at ht3 ⊢
  have hst3 := hst2.call ht3 hk3
  generalize w1.heap.size = g3 at *
  clear hst2 ht2 ht1 hk1 hk3 ht3 t0 t1 t2 t3 t4 t5 htb1 hrb1 hk1' hz1 hgl
  have f1 := hst3.fb.six.c1
  have ff1 := hst3.fb.free 1
  have hst4 := hst3.set (hst3.fb.set1 (.int .u8 (C.1 : Int)))
  have hE := hid (tkOne_eq l s A C hA.out hC.out)
  obtain ⟨d0, d1, d2, d3, d4, d5⟩ := hst4.fb.six
  obtain ⟨t0, t1, t2, t3, t4, t5⟩ := hst4.tb.six
  clear hst3
  have e1 : C.1 = 4 := by rw [hC.out, hA.out]; exact hK.out
  have b0 : ((C.1 : Int) == 4) = true := by rw [e1]; rfl
  have n3 : ((C.1 : Int) == 3) = false := by rw [e1]; rfl
  have n1 : ((C.1 : Int) == 1) = false := by rw [e1]; rfl
  have n2 : ((C.1 : Int) == 2) = false := by rw [e1]; rfl
  rw [if_neg (by rw [e1]; decide)] at hE
  rw [if_neg (by rw [e1]; decide)] at hE
  rw [if_neg (by rw [e1]; decide)] at hE
  rw [if_pos e1] at hE
  replace e1 := hid e1
  obtain ⟨w4, hw4⟩ : ∃ w4, w4 = w2.setCell ⟨g3, 1, none⟩ (.int .u8 (C.1 : Int)) := ⟨_, rfl⟩
  have hst4d : Stand w0 w (w2.setCell ⟨g3, 1, none⟩ (.int .u8 (C.1 : Int))).drew a len cap gb ga gw gn g3 C.2 _ _ _ _ _ _ := hst4.below (Below.refl _ _).drew
  obtain ⟨D, hD⟩ : ∃ D, D = tkN l 2 C.2 := ⟨_, rfl⟩
  have hDl : D.1 ≤ 65535 := by have := tkN_lt l 2 C.2; rw [hD]; omega
  have hlenC := length_any a len cap gb ga gw gn l C.2 _ hl hlen hat hst4d.tk
  rw [← hD] at hlenC hE
  replace hD := hid hD
  go_wp2_with fail
  go_region_held (fun w' : World => w'.cell? ⟨w.heap.size, 0, none⟩ = some (.func (.func 49) #[] #[.pointer (some ⟨gb, 0, none⟩), .pointer (some ⟨ga, 0, none⟩), .pointer (some ⟨gn, 0, none⟩)]) ∧ w'.cell? ⟨w.heap.size, 1, none⟩ = some (.func (.func 51) #[] #[.pointer (some ⟨gb, 0, none⟩), .pointer (some ⟨ga, 0, none⟩), .pointer (some ⟨gn, 0, none⟩)]) ∧ w'.cell? ⟨w.heap.size, 2, none⟩ = some (.func (.func 53) #[] #[.pointer (some ⟨gb, 0, none⟩), .pointer (some ⟨ga, 0, none⟩), .pointer (some ⟨gn, 0, none⟩)]) ∧ w'.cell? ⟨w.heap.size, 3, none⟩ = some (.func (.func 55) #[] #[.pointer (some ⟨gb, 0, none⟩), .pointer (some ⟨ga, 0, none⟩), .pointer (some ⟨gn, 0, none⟩)]) ∧ w'.cell? ⟨w.heap.size, 4, none⟩ = some (.func (.func 57) #[] #[.pointer (some ⟨gw, 0, none⟩)]) ∧ w'.cell? ⟨w.heap.size, 5, none⟩ = some (.func (.func 58) #[] #[.pointer (some ⟨gw, 0, none⟩), .pointer (some ⟨ga, 0, none⟩), .pointer (some ⟨gb, 0, none⟩)])) (first | exact six_of' hst7.tb | exact six_of' hst6.tb | exact six_of' hst5.tb | exact six_of' hst4d.tb) (first
    | (go_at_call 51; refine hlenC.mono ?_; rintro e w5 ⟨rfl, ht5, hk5⟩; have hst5 := hst4d.call ht5 hk5; have hsev := txts_any a len cap gb ga gw gn D.1 l D.2 w5 hl hlen hcap hat ht5 hDl; unfold tkVal at hsev)
    | (go_at_call 60; refine hsev.mono ?_; rintro e w6 ⟨a6, c6, rfl, ho6, ht6, hk6⟩; have hst6 := hst5.call ht6 hk6; have y1 := hst6.fb.six.c5; have y2 := hst6.fb.free 5; have hst7 := hst6.set (hst6.fb.set5 (.slice a6 (many (tkT l) D.1 D.2).1.length c6))))
  have ho7 : Txts (w6.setCell ⟨g3, 5, none⟩ (.slice a6 (many (tkT l) D.1 D.2).1.length c6)) w.heap.size _ _ := owns_kp (owns_low ho6 hst5.kp.size) (Kp.setCell (S := fun k => k = g3) (p := ⟨g3, 5, none⟩) (Kp.refl _ _) rfl _) (fun k hk e' => owns_block_ne ho6 hst6.fb (by decide) (by rw [hk, e']))
  have hfin := hst7.fin (.int .u8 (A.1 : Int)) (.int .u8 (C.1 : Int)) (.int .i64 0) (.string ByteArray.empty) (.slice none 0 0) (.slice a6 (many (tkT l) D.1 D.2).1.length c6)
  have ho8 : Txts _ w.heap.size _ _ := hst7.keeps ho7 (by decide) (.int .u8 (A.1 : Int)) (.int .u8 (C.1 : Int)) (.int .i64 0) (.string ByteArray.empty) (.slice none 0 0) (.slice a6 (many (tkT l) D.1 D.2).1.length c6)
  obtain ⟨x0, x1, x2, x3, x4, x5⟩ := hst7.fb.six
  obtain ⟨p0, p1, p2, p3, p4, p5, hrb⟩ := hst7.rb
  obtain ⟨r0, r1, r2, r3, r4, r5⟩ := hrb.six
  have s0 := hrb.free 0
  have s1 := hrb.free 1
  have s2 := hrb.free 2
  have s3 := hrb.free 3
  have s4 := hrb.free 4
  have s5 := hrb.free 5
  clear hst4 hst4d hst5 hst6
  generalize many (tkT l) D.1 D.2 = M at *
  go_wp2
  (try simp only [Exit.inBlock, Exit.then]); refine bodyPost_ret (results_field rfl _ _ (w.heap.size + 1) _ _ _ _ _ _ rfl hfin.1) rfl ?_
  refine ⟨⟨⟨UInt8.ofNat A.1, UInt8.ofNat C.1, 0, ByteArray.empty, [], M.1⟩, none, 0, a6, c6⟩, by rw [val_eq _ _ hAl hCl]; rfl, by rw [hE.out], ⟨Nums.nil _ _, ho8⟩, by rw [hE.out]; exact hfin.2.1, hfin.2.2⟩
end Go.Proofs.Ytkkdiciadkcmmaa
