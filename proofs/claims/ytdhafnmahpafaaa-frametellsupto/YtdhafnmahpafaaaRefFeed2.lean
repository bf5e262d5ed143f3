/- What the document's Feed answers of a reader that is not broken; for up to 39000000000000 bytes. -/
import Derived.Test.YtdhafnmahpafaaaRefFeed
namespace Go.Proofs.Ytdhafnmahpafaaa
open Go.RowKit

/-- What Feed tells of the reader then. -/
def errOf (st : Option (List UInt8)) : Int := if st.isNone then 30 else 0

set_option maxRecDepth 100000 in
set_option maxHeartbeats 2000000 in
theorem reffeed_some (al a : Option Addr) (cl len cap : Nat) (left l all : List UInt8) (w : World) (hal : At w al left) (hl : l.length = len) (hall : all = left ++ l) (hlen : all.length ≤ 39000000000000) (hat : At w a l) :
    Calls Try.prog 20 #[.agg #[.slice al left.length cl, .bool false], .slice a len cap] w fun e w' => ∃ a' c' af cf its, its.map It.fr = (takeOf all).1 ∧
      e = .returned (.tuple #[.agg #[.slice a' ((takeOf all).2.getD []).length c', .bool (takeOf all).2.isNone], .slice af its.length cf, .int .i64 (errOf (takeOf all).2)]) ∧ At w' a' ((takeOf all).2.getD []) ∧ Frs w' (fun k => w.heap.size ≤ k) (.slice af its.length cf) its ∧ Below w.heap.size w w' ∧ (∀ x, a' = some x → w.heap.size ≤ x.block) := by
  have hlla : all.length = left.length + len := by rw [hall, List.length_append, hl]
  have hW := bnext (below_lit w (.cells #[.slice al left.length cl, .bool false] 39)) (below_lit _ (.cells #[.slice none 0 0, .bool false] 39))
  have hR0 := RBlk.new (w.alloc (.cells #[.slice al left.length cl, .bool false] 39)) (.slice none 0 0) false
  simp only [World.size_alloc] at hR0
  replace hall := hid hall
  go_enter Try.func20, Try.ntmps20
  go_wp2_with fail
  refine (copy_sl al cl left.length left _ rfl (by omega) (hal.below hW)).mono ?_
  rintro e w1 ⟨b1, c1, rfl, ho1, hb1⟩
  have hR1 := hR0.below hb1
  have hat1 := (hat.below hW).below hb1
  have hz1 := hb1.size
  go_wp2_with (at_builtin; refine wpList_more _ rfl (.tmp 19) (.tmp 20) rfl rfl w.heap.size _ left l rfl (ho1.le hW.size) a len cap rfl hl hat1 (by omega) (Nat.le_trans hW.size hz1) ?_; intro v2 w2 ho2 hg2 _)
  have hw1 := bnext hW hb1
  have hw2 : Below w.heap.size w w2 := hw1.grown hg2 hw1.size (fun k hk => Nat.le_trans hW.size (ho1.lt k hk).1)
  have hR2 := hR1.kp (Kp.grown hg2) (fun e => hR1.ne_owns ho1 (by decide) _ e rfl)
  obtain ⟨g4, hg4e⟩ : ∃ g4, g4 = w.heap.size + 1 := ⟨_, rfl⟩
  rw [← hg4e] at hR2 ⊢
  have hg4 : Hid (w.heap.size ≤ g4) := by show w.heap.size ≤ g4; omega
  clear hg4e
  rw [← hall.out] at ho2
  obtain ⟨a2, c2, rfl, hc2, hat2⟩ := ho2.form
  have hal2 : ∀ x, a2 = some x → w.heap.size ≤ x.block := fun x hx => (ho2.lt x.block (by rw [hx]; rfl)).1
  replace hlla := hid hlla
  clear hR1 hR0 ho1 hg2 hz1 hat1 hb1 hW hw1
  go_loopw [7, 8] (fun rest fr wr => ∃ its m ar n cr, Round w2 wr all (.slice a2 all.length c2) rest fr its m ar n cr ∧ ∀ x, ar = some x → w.heap.size ≤ x.block) (fun rest _ _ => lenOf rest)
  case atStart => exact ⟨[], all, a2, all.length, c2, ⟨rfl, rfl, hc2, hat2, by simp, World.ownsRow_nil _ _ _ _, by simp, Nat.le_refl _, Below.refl _ _, fun _ => ⟨rfl, rfl⟩⟩, hal2⟩
  case round =>
    obtain ⟨its, m, ar, n0, cr, hr, har⟩ := hrel
    replace har := hid har
    have hnum := hr.num
    obtain rfl := hr.eq
    obtain rfl := hr.len
    obtain ⟨af, cf, rfl⟩ := owns_form hr.own
    have hmem := hr.mem.below hr.below
    have hcap := hr.cap
    have hml := hr.le
    have hR := hR2.below hr.below
    have hRc0 := hR.c0
    have hRc1 := hR.c1
    have hRf0 := hR.free 0
    have hRf1 := hR.free 1
    by_cases h4 : m.length < 4
    · have hb := rd4_no m 0 0 rfl (by omega)
      have hh : headOf m = none := by unfold headOf; rw [if_pos h4]
      go_wp2_with fail
      refine (refnum_any _ cr m.length m 0 4 _ rfl (by omega) (by omega) (by omega) hmem).mono ?_
      rintro e w5 ⟨rfl, rfl⟩
      rw [hb]
      go_wp2
      (try simp only [Exit.inBlock, Exit.then])
      refine bodyPost_ret (results_reader3 rfl _ _ g4 (.slice ar m.length cr) false rfl (hR.set _ _)) rfl ?_
      have htk := hr.take
      rw [take_cut hh, List.append_nil] at htk
      obtain ⟨q1, q2, q3⟩ := reffeed_end hr hR hw2 hg4.out (.slice ar m.length cr) false
      refine ⟨ar, cr, af, cf, its, by rw [htk], ?_, by rw [htk]; exact q2, q1, q3, har.out⟩
      rw [htk]
      rfl
    · obtain ⟨n, hn⟩ : ∃ n, n = numOf (m.take 4) := ⟨_, rfl⟩
      obtain ⟨hb, hv⟩ := rd4_yes m 0 0 rfl (by omega)
      rw [List.drop_zero, ← hn] at hv
      have hn32 : n < 4294967296 := by
        rw [hn]
        have := numOf_lt (m.take 4)
        rw [List.length_take, Nat.min_eq_left (by omega)] at this
        omega
      by_cases h0 : n = 0 ∨ 65536 < n
      · have hh : headOf m = some none := by unfold headOf; rw [← hn, if_neg h4, if_pos h0]
        clear hn
        rcases h0 with rfl | h0
        · go_wp2_with fail
          refine (refnum_any _ cr m.length m 0 4 _ rfl (by omega) (by omega) (by omega) hmem).mono ?_
          rintro e w5 ⟨rfl, rfl⟩
          rw [hb, hv]
          go_wp2
          (try simp only [Exit.inBlock, Exit.then])
          refine bodyPost_ret (results_reader3 rfl _ _ g4 (.slice none 0 0) true rfl (hR.set _ _)) rfl ?_
          have htk := hr.take
          rw [take_wrong hh, List.append_nil] at htk
          obtain ⟨q1, q2, q3⟩ := reffeed_end hr hR hw2 hg4.out (.slice none 0 0) true
          refine ⟨none, 0, af, cf, its, by rw [htk], ?_, by rw [htk]; exact at_nil _ _, q1, q3, fun x hx => by cases hx⟩
          rw [htk]
          rfl
        · have hd1 : decide ((n : Int) < 1) = false := decide_eq_false (by omega)
          have hd2 : decide ((65536 : Int) < n) = true := decide_eq_true (by omega)
          go_wp2_with fail
          refine (refnum_any _ cr m.length m 0 4 _ rfl (by omega) (by omega) (by omega) hmem).mono ?_
          rintro e w5 ⟨rfl, rfl⟩
          rw [hb, hv]
          go_wp2
          (try simp only [Exit.inBlock, Exit.then])
          refine bodyPost_ret (results_reader3 rfl _ _ g4 (.slice none 0 0) true rfl (hR.set _ _)) rfl ?_
          have htk := hr.take
          rw [take_wrong hh, List.append_nil] at htk
          obtain ⟨q1, q2, q3⟩ := reffeed_end hr hR hw2 hg4.out (.slice none 0 0) true
          refine ⟨none, 0, af, cf, its, by rw [htk], ?_, by rw [htk]; exact at_nil _ _, q1, q3, fun x hx => by cases hx⟩
          rw [htk]
          rfl
      · have hd1 : decide ((n : Int) < 1) = false := decide_eq_false (by omega)
        have hd2 : decide ((65536 : Int) < n) = false := decide_eq_false (by omega)
        by_cases h8 : m.length < n + 8
        · have hh : headOf m = none := by unfold headOf; rw [← hn, if_neg h4, if_neg h0, if_pos h8]
          have hb2 := rd4_no m (4 + (n : Int)) (4 + n) (by simp) (by omega)
          clear hn
          go_wp2_with fail
          refine (refnum_any _ cr m.length m 0 4 _ rfl (by omega) (by omega) (by omega) hmem).mono ?_
          rintro e w5 ⟨rfl, rfl⟩
          rw [hb, hv]
          go_wp2_with fail
          refine (refnum_any _ cr m.length m (4 + (n : Int)) 4 _ rfl (by omega) (by omega) (by omega) hmem).mono ?_
          rintro e w5 ⟨rfl, rfl⟩
          rw [hb2]
          go_wp2
          (try simp only [Exit.inBlock, Exit.then])
          refine bodyPost_ret (results_reader3 rfl _ _ g4 (.slice ar m.length cr) false rfl (hR.set _ _)) rfl ?_
          have htk := hr.take
          rw [take_cut hh, List.append_nil] at htk
          obtain ⟨q1, q2, q3⟩ := reffeed_end hr hR hw2 hg4.out (.slice ar m.length cr) false
          refine ⟨ar, cr, af, cf, its, by rw [htk], ?_, by rw [htk]; exact q2, q1, q3, har.out⟩
          rw [htk]
          rfl
        · obtain ⟨b, o, rfl, hc⟩ := hmem (by intro e; subst e; simp at h4)
          obtain ⟨hb2, hv2⟩ := rd4_yes m (4 + (n : Int)) (4 + n) (by simp) (by omega)
          have hs32 : numOf ((m.drop (4 + n)).take 4) < 4294967296 := by
            have := numOf_lt ((m.drop (4 + n)).take 4)
            rw [List.length_take, List.length_drop, Nat.min_eq_left (by omega)] at this
            omega
          have hw4 := At.window hc 4 n
          have hl4 : ((m.drop 4).take n).length = n := by rw [List.length_take, List.length_drop]; omega
          by_cases hs : numOf ((m.drop (4 + n)).take 4) = crcOf ((m.drop 4).take n)
          · have hh : headOf m = some (some (m.getD 4 0, (m.drop 5).take (n - 1), n + 8)) := by unfold headOf; rw [← hn, if_neg h4, if_neg h0, if_neg h8, if_pos hs]
            clear hn
            have hl5 : ((m.drop 5).take (n - 1)).length = n - 1 := by rw [List.length_take, List.length_drop]; omega
            have hw5 := At.window hc 5 (n - 1)
            have hk := hc 4 (by omega)
            have hk1 : m.getD 4 0 = m[4]'(by omega) := by simp [List.getD, show 4 < m.length by omega]
            rw [hk1] at hh
            generalize m[4]'(by omega) = k at *
            generalize hbody : (m.drop 5).take (n - 1) = body at *
            clear hbody
            generalize hM : (m.drop 4).take n = M at *
            generalize numOf ((m.drop (4 + n)).take 4) = sm at *
            have hne : ((sm : Int) != (moreOf 0 M : Int)) = false := by rw [bne_eq_false_iff_eq]; unfold crcOf at hs; omega
            clear hM
            generalize hC : moreOf 0 M = C at *
            have hcr : Calls Try.prog 31 #[.int .u32 0, .slice (some ⟨b, o + 4, none⟩) n (cr - 4)] wr fun e w' => e = .returned (.int .u32 (C : Int)) ∧ w' = wr := by rw [← hC]; exact refmore_any 0 n (cr - 4) _ M wr (by omega) hl4 (by omega) hw4
            clear hC hs hw4 hl4
            have hnum2 := hnum
            rw [take_whole hh] at hnum2
            simp only [List.length_cons] at hnum2
            go_wp2_with fail
            refine (refnum_any _ cr m.length m 0 4 _ rfl (by omega) (by omega) (by omega) hmem).mono ?_
            rintro e w5 ⟨rfl, rfl⟩
            rw [hb, hv]
            go_wp2_with fail
            refine (refnum_any _ cr m.length m (4 + (n : Int)) 4 _ rfl (by omega) (by omega) (by omega) hmem).mono ?_
            rintro e w5 ⟨rfl, rfl⟩
            rw [hb2, hv2]
            go_wp2_with fail
            refine hcr.mono ?_
            rintro e w5 ⟨rfl, rfl⟩
            have hkd : w5.drew.cell? ⟨b, o + 4, none⟩ = some (.int .u8 (k.toNat : Int)) := hk
            have hwd : At w5.drew (some ⟨b, o + 5, none⟩) body := hw5
            have hcp := copy_sl (some ⟨b, o + 5, none⟩) (cr - 5) (n - 1) body w5.drew hl5 (by omega) hwd
            have hbn : its.length + 1 ≤ 4398046511104 := by omega
            have hrz := hr.below.size
            have hs9 := head_size hh
            have h4i : (4 : Int) < m.length := by omega
            have h5i : (5 : Int) ≤ 4 + n := by omega
            have h6i : 4 + (n : Int) ≤ cr := by omega
            have h7i : ¬ cr = 5 := by omega
            have h8i : (4 + (n : Int)).toNat - 5 = n - 1 := by omega
            go_wp2_with fail
            go_region_law (first
              | (refine step_call rfl 12 _ _ rfl Try.f12 Try.func12 (by kernel_rfl) (by kernel_rfl) #[.slice (some ⟨b, o + 5, none⟩) (n - 1) (cr - 5)] (by first | (simp [Act.eval]; done) | (simp [Act.eval]; rfl) | (simp [Act.eval]; exact congrArg (fun q => Value.slice (some ⟨b, o + 5, none⟩) q (cr - 5)) h8i)) hcp ?_; rintro e w6 ⟨bb, cb, rfl, ho6, hb6⟩; refine ⟨_, rfl, ?_⟩; have hb6' := undrew hb6; have hk6 : w6.cell? ⟨b, o + 4, none⟩ = some (.int .u8 (k.toNat : Int)) := (hb6.cell (p := ⟨b, o + 4, none⟩) (World.block_lt_of_cell? w5.drew _ hkd)).trans hkd; have hob6 := owns_kp hr.own (Kp.of_below (S := fun _ => False) hb6') (fun _ _ h => h); have hz6 := hb6'.size; have hfb : FBlk (w6.alloc (.cells #[.int .u8 (k.toNat : Int), .slice bb (n - 1) cb] 27)) w6.heap.size (k.toNat : Int) (.slice bb body.length cb) := (by rw [hl5]; exact FBlk.new w6 _ _))
              | (refine step_push rfl (.tmp 63) (.tmp 72) rfl w2.heap.size _ its rfl (hob6.alloc _) w6.heap.size 1 ⟨k, body, bb, cb⟩ rfl hfb hbn (by simp; omega) ?_; intro v7 w7 ho7 hg7))
            all_goals
              go_wp2_with fail
              refine ⟨⟨its ++ [⟨k, body, bb, cb⟩], m.drop (n + 8), _, _, _, round_next2 hr hh hb6' (by rw [hl5]; exact ho6) (below_lit w6 _) ho7 hg7 _ _ _ (by omega) (by omega) ?_, ?_⟩, ?_⟩
              · intro hne
                rw [Ne, List.drop_eq_nil_iff] at hne
                rw [if_neg (by omega), show 4 + n + 4 = n + 8 by omega]
              · intro x hx
                have hbb := har.out ⟨b, o, none⟩ rfl
                split at hx
                · cases hx; exact hbb
                · cases hx; exact hbb
              · simp only [lenOf]
                omega
          · have hh : headOf m = some none := by unfold headOf; rw [← hn, if_neg h4, if_neg h0, if_neg h8, if_neg hs]
            clear hn
            generalize hM : (m.drop 4).take n = M at *
            generalize numOf ((m.drop (4 + n)).take 4) = sm at *
            have hne : ((sm : Int) != (moreOf 0 M : Int)) = true := by rw [bne_iff_ne]; unfold crcOf at hs; omega
            clear hM
            generalize hC : moreOf 0 M = C at *
            have hcr : Calls Try.prog 31 #[.int .u32 0, .slice (some ⟨b, o + 4, none⟩) n (cr - 4)] wr fun e w' => e = .returned (.int .u32 (C : Int)) ∧ w' = wr := by rw [← hC]; exact refmore_any 0 n (cr - 4) _ M wr (by omega) hl4 (by omega) hw4
            clear hC hs
            go_wp2_with fail
            refine (refnum_any _ cr m.length m 0 4 _ rfl (by omega) (by omega) (by omega) hmem).mono ?_
            rintro e w5 ⟨rfl, rfl⟩
            rw [hb, hv]
            go_wp2_with fail
            refine (refnum_any _ cr m.length m (4 + (n : Int)) 4 _ rfl (by omega) (by omega) (by omega) hmem).mono ?_
            rintro e w5 ⟨rfl, rfl⟩
            rw [hb2, hv2]
            go_wp2_with fail
            refine hcr.mono ?_
            rintro e w5 ⟨rfl, rfl⟩
            go_wp2
            (try simp only [Exit.inBlock, Exit.then])
            refine bodyPost_ret (results_reader3 rfl _ _ g4 (.slice none 0 0) true rfl (hR.set _ _)) rfl ?_
            have htk := hr.take
            rw [take_wrong hh, List.append_nil] at htk
            obtain ⟨q1, q2, q3⟩ := reffeed_end hr hR hw2 hg4.out (.slice none 0 0) true
            refine ⟨none, 0, af, cf, its, by rw [htk], ?_, by rw [htk]; exact at_nil _ _, q1, q3, fun x hx => by cases hx⟩
            rw [htk]
            rfl

/-- What the document's Feed answers. -/
theorem reffeed_any (al a : Option Addr) (cl nl len cap : Nat) (br : Bool) (E : Int) (st st' : Option (List UInt8)) (l : List UInt8) (fs : List Fr) (w : World) (hal : At w al (st.getD [])) (hnl : (st.getD []).length = nl) (hbr : br = st.isNone) (hl : l.length = len) (hlen : nl + len ≤ 39000000000000) (hat : At w a l)
    (hf : feedOf st l = (fs, st')) (hE : E = errOf st') :
    Calls Try.prog 20 #[.agg #[.slice al nl cl, .bool br], .slice a len cap] w fun e w' => ∃ a' c' af cf its, its.map It.fr = fs ∧
      e = .returned (.tuple #[.agg #[.slice a' (st'.getD []).length c', .bool st'.isNone], .slice af its.length cf, .int .i64 E]) ∧ At w' a' (st'.getD []) ∧ Frs w' (fun k => w.heap.size ≤ k) (.slice af its.length cf) its ∧ Below w.heap.size w w' ∧ (st'.getD [] ≠ [] → ∀ x, a' = some x → w.heap.size ≤ x.block) := by
  subst hnl hbr hE
  cases st with
  | none =>
    simp only [feedOf, Prod.mk.injEq] at hf
    obtain ⟨rfl, rfl⟩ := hf
    refine (reffeed_broken al a cl len cap w).mono ?_
    rintro e w' ⟨rfl, hb⟩
    exact ⟨al, cl, none, 0, [], rfl, rfl, at_nil _ _, ⟨World.ownsRow_nil _ _ _ _, (fun k hk => by cases hk), by simp⟩, hb, fun h => absurd rfl h⟩
  | some left =>
    have h2 : takeOf (left ++ l) = (fs, st') := hf
    refine (reffeed_some al a cl len cap left l (left ++ l) w hal hl rfl (by rw [List.length_append, hl]; exact hlen) hat).mono ?_
    rintro e w' ⟨a', c', af, cf, its, h3, rfl, h4, h5, h6, h7⟩
    rw [h2] at h3 h4 ⊢
    exact ⟨a', c', af, cf, its, h3, rfl, h4, h5, h6, fun _ => h7⟩

end Go.Proofs.Ytdhafnmahpafaaa
