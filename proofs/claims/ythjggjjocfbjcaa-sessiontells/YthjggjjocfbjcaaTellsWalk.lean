/- SessionTells answers true, whatever the clients and numbers. -/
import Derived.Test.YthjggjjocfbjcaaAsksWalk
import Derived.Test.YthjggjjocfbjcaaTellE
import Derived.Test.YthjggjjocfbjcaaTellC
namespace Go.Proofs.Ythjggjjocfbjcaa
open Go.RowKit

theorem eq_same23 (x : Int) (w : World) : (binOp .eql 23 (.int .u8 x) (.int .u8 x)).run Try.prog w = .ok (.bool true) w := by
  have : (x == x) = true := by simp
  go_simp

set_option maxRecDepth 100000 in
set_option maxHeartbeats 8000000 in
theorem tells_any (a : Option Addr) (n c : Nat) (L : List CV) (cl r ak : Int) (ba : Option Addr) (bl bc : Nat) (body : List UInt8) (w : World) (hL : L.length = n) (h : LAt w 0 a L) (hnn : n * 40 ≤ SMALL) (hks : ∀ x ∈ L, x.ks.length * 32 ≤ SMALL) (hbl : body.length = bl) (hbs : bl ≤ 140737488351232) (hat : At w ba body) :
    Calls Try.prog 4 #[.slice a n c, .int .i64 cl, .int .i64 r, .int .i64 ak, .slice ba bl bc] w fun e w' => e = .returned (.bool true) ∧ Below w.heap.size w w' := by
  have hns := hnn
  unfold SMALL at hns
  replace hL := hid hL
  replace hbl := hid hbl
  obtain ⟨⟨ll, lv, lr, le⟩, hLk⟩ : ∃ R, lookP (L.map CV.flat) cl r ak = R := ⟨_, rfl⟩
  obtain ⟨⟨dl, de⟩, hDn⟩ : ∃ R, doneP (L.map CV.flat) cl r body = R := ⟨_, rfl⟩
  obtain ⟨G, hG⟩ : ∃ G, rightP (L.map CV.flat) = G := ⟨_, rfl⟩
  have hlb := hid (look_small hLk)
  have hdb := hid (done_small hDn)
  obtain ⟨lm, hlm⟩ : ∃ m, ll.length = m := ⟨_, rfl⟩
  obtain ⟨ln, hln⟩ : ∃ m, lr.length = m := ⟨_, rfl⟩
  obtain ⟨dm, hdm⟩ : ∃ m, dl.length = m := ⟨_, rfl⟩
  replace hLk := hid hLk
  replace hDn := hid hDn
  replace hG := hid hG
  replace hlm := hid hlm
  replace hln := hid hln
  replace hdm := hid hdm
  have BB := Below.refl w.heap.size w
  go_enter Try.func4, Try.ntmps4
  go_wp2_with fail
  refine (copycl_any a n c 0 L w hL.out h hnn hks).mono ?_
  rintro e w2 ⟨v2, Q, rfl, hQ, hC2, b2⟩
  have hQl : Q.length = n := by have := congrArg List.length hQ; simpa [hL.out] using this
  obtain ⟨a2, c2, rfl, -⟩ := owns_form hC2.row
  rw [hQl] at hC2 ⊢
  have hA2 := hC2.lat.le (Nat.zero_le _)
  replace hC2 := hid hC2
  replace hQ := hid hQ
  replace hQl := hid hQl
  replace h := h.below b2
  replace hat := hat.below b2
  replace BB := bnext BB b2
  clear b2
  go_wp2_with fail
  refine (lent_any ba bc bl body w2 hbl.out (by omega) hat).mono ?_
  rintro e w3 ⟨g10, c10, rfl, hc10, hat10, b3⟩
  replace h := h.below b3
  replace hat := hat.below b3
  replace hA2 := hA2.below b3
  replace BB := bnext BB b3
  clear b3
  go_wp2_with fail
  have hc := look_any a2 n c2 0 Q cl r ak w3 hQl.out hA2 (by omega)
  rw [hQ.out, hLk.out] at hc
  refine hc.mono ?_
  clear hc
  rintro e w4 ⟨a4, c4, L4, ra4, rc4, rfl, f4, h4, ho4, b4⟩
  simp only [hlm.out, hln.out]
  replace h4 := h4.le (Nat.zero_le _)
  have hr4 : At w4 ra4 lr := ho4.at_
  replace f4 := hid f4
  replace ho4 := hid ho4
  replace h := h.below b4
  replace hat := hat.below b4
  replace hA2 := hA2.below b4
  replace hat10 := hat10.below b4
  replace BB := bnext BB b4
  clear b4
  go_wp2_with fail
  have hc := lookr_any a n c L cl r ak w4 hL.out h (by omega)
  rw [hLk.out] at hc
  refine hc.mono ?_
  clear hc
  rintro e w5 ⟨a5, c5, L5, ra5, rc5, rfl, f5, h5, hr5, b5⟩
  simp only [hlm.out, hln.out]
  replace f5 := hid f5
  replace h := h.below b5
  replace hat := hat.below b5
  replace hA2 := hA2.below b5
  replace hat10 := hat10.below b5
  replace h4 := h4.below b5
  replace hr4 := hr4.below b5
  replace BB := bnext BB b5
  clear b5
  go_wp2_with fail
  have hc := done_any a2 n c2 0 Q cl r (some ⟨g10, 0, none⟩) bl c10 body w5 hQl.out hA2 hbl.out (by omega) (at_head hat10) (by omega)
  rw [hQ.out, hDn.out] at hc
  refine hc.mono ?_
  clear hc
  rintro e w6 ⟨a6, c6, L6, rfl, f6, h6, b6⟩
  simp only [hdm.out]
  replace h6 := h6.le (Nat.zero_le _)
  replace f6 := hid f6
  replace h := h.below b6
  replace hat := hat.below b6
  replace hA2 := hA2.below b6
  replace hat10 := hat10.below b6
  replace h4 := h4.below b6
  replace hr4 := hr4.below b6
  replace h5 := h5.below b6
  replace hr5 := hr5.below b6
  replace BB := bnext BB b6
  clear b6
  go_wp2_with fail
  have hc := doner_any a n c L cl r ba bl bc body w6 hL.out h (by omega) hbl.out (by omega) hat
  rw [hDn.out] at hc
  refine hc.mono ?_
  clear hc
  rintro e w7 ⟨a7, c7, L7, rfl, f7, h7, b7⟩
  simp only [hdm.out]
  replace f7 := hid f7
  replace h := h.below b7
  replace hat := hat.below b7
  replace hA2 := hA2.below b7
  replace hat10 := hat10.below b7
  replace h4 := h4.below b7
  replace hr4 := hr4.below b7
  replace h5 := h5.below b7
  replace hr5 := hr5.below b7
  replace h6 := h6.below b7
  replace BB := bnext BB b7
  clear b7
  have C10 : ∀ W, Below w7.heap.size w7 W → Calls Try.prog 10 #[.slice a2 n c2] W fun e w' => e = .returned (.bool G) ∧ Below W.heap.size W w' := fun W hb => by have := right_any a2 n c2 0 Q W hQl.out (hA2.below hb) (by omega); rw [hQ.out, hG.out] at this; exact this
  have C20 : ∀ W, Below w7.heap.size w7 W → Calls Try.prog 20 #[.slice a n c] W fun e w' => e = .returned (.bool G) ∧ Below W.heap.size W w' := fun W hb => by have := rightr_any a n c 0 L W hL.out (h.below hb) (by omega); rw [hG.out] at this; exact this
  have C21 : ∀ W, Below w7.heap.size w7 W → Calls Try.prog 21 #[.slice ra4 ln rc4, .slice ra5 ln rc5] W fun e w' => e = .returned (.bool true) ∧ Below W.heap.size W w' := fun W hb => (same_any ra4 ra5 ln ln rc4 rc5 lr lr W hln.out hln.out (hr4.below hb) (hr5.below hb) rfl).mono (by rintro e w' ⟨rfl, rfl⟩; exact ⟨rfl, Below.refl _ _⟩)
  have C22a : ∀ W, Below w7.heap.size w7 W → Calls Try.prog 22 #[.slice a4 lm c4, .slice a5 lm c5] W fun e w' => e = .returned (.bool true) ∧ Below W.heap.size W w' := fun W hb => samec_any a4 a5 lm c4 c5 0 0 L4 L5 W (flat_lenC f4.out hlm.out) (flat_lenC f5.out hlm.out) (f4.out.trans f5.out.symm) (h4.below hb) (h5.below hb) (by have := hlb.out.1; have := hlm.out; omega) (kept_small f4.out hlb.out.2)
  have C22b : ∀ W, Below w7.heap.size w7 W → Calls Try.prog 22 #[.slice a6 dm c6, .slice a7 dm c7] W fun e w' => e = .returned (.bool true) ∧ Below W.heap.size W w' := fun W hb => samec_any a6 a7 dm c6 c7 0 0 L6 L7 W (flat_lenC f6.out hdm.out) (flat_lenC f7.out hdm.out) (f6.out.trans f7.out.symm) (h6.below hb) (h7.below hb) (by have := hdb.out.1; have := hdm.out; omega) (kept_small f6.out hdb.out.2)
  have C22c : ∀ W, Below w7.heap.size w7 W → Calls Try.prog 22 #[.slice a2 n c2, .slice a n c] W fun e w' => e = .returned (.bool true) ∧ Below W.heap.size W w' := fun W hb => samec_any a2 a n c2 c 0 0 Q L W hQl.out hL.out hQ.out (hA2.below hb) (h.below hb) (by omega) (copy_small hQ.out hks)
  have C23 : ∀ W, Below w7.heap.size w7 W → Calls Try.prog 23 #[.slice (some ⟨g10, 0, none⟩) bl c10, .slice ba bl bc] W fun e w' => e = .returned (.bool true) ∧ Below W.heap.size W w' := fun W hb => (kept_any g10 c10 bc bl ba body W hbl.out (by omega) hc10 (hat10.below hb) (hat.below hb)).mono (by rintro e w' ⟨rfl, rfl⟩; exact ⟨rfl, Below.refl _ _⟩)
  have BX := Below.refl w7.heap.size w7
  go_wp2_with fail
  refine (C10 w7 BX).mono ?_
  rintro e w8 ⟨rfl, bw8⟩
  replace BX := bnext BX bw8
  go_wp2_with fail
  refine (C20 w8 BX).mono ?_
  rintro e w9 ⟨rfl, bw9⟩
  replace BX := bnext BX bw9
  go_wp2_with fail
  refine (C21 w9 BX).mono ?_
  rintro e w10 ⟨rfl, bw10⟩
  replace BX := bnext BX bw10
  go_wp2_with fail
  refine (C22a w10 BX).mono ?_
  rintro e w11 ⟨rfl, bw11⟩
  replace BX := bnext BX bw11
  go_wp2_with fail
  refine (C22b w11 BX).mono ?_
  rintro e w12 ⟨rfl, bw12⟩
  replace BX := bnext BX bw12
  go_wp2_with fail
  refine (C22c w12 BX).mono ?_
  rintro e w13 ⟨rfl, bw13⟩
  replace BX := bnext BX bw13
  go_wp2_with fail
  refine (C23 w13 BX).mono ?_
  rintro e w14 ⟨rfl, bw14⟩
  replace BX := bnext BX bw14
  go_wp2_with fail
  refine (awake_any w14).mono ?_
  rintro e w15 ⟨rfl, bw15⟩
  replace BX := bnext BX bw15
  go_wp2
  go_ret
  exact ⟨rfl, bnext BB BX⟩

end Go.Proofs.Ythjggjjocfbjcaa
