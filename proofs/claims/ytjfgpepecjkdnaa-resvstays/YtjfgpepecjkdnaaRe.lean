/- Whether a list of reservations is right. -/
import Derived.Test.YtjfgpepecjkdnaaRd
namespace Go.Proofs.Ytjfgpepecjkdnaa
open Go.RowKit
set_option linter.unusedVariables false

def pvRA (ca pa aa qa : Option Addr) (cn cc pn pc ak az qk qc : Nat) (pol : Int) (b o k c g2 g6 j p : Nat) (x1 px : ByteArray) (s1 : Nat) (f1 t1 : Int) (da1 : Option Addr) (dn1 dc1 : Nat) : List Value := [.agg #[.slice ca cn cc, .slice pa pn pc, .slice aa ak az, .slice qa qk qc, .int .u8 pol], .agg #[.string x1, .int .u32 (s1 : Int), .int .i64 f1, .int .i64 t1, .slice da1 dn1 dc1], .bool false, .bool true, .bool true, undef, undef, undef, undef, undef, undef, undef, undef, undef, undef, undef, undef, undef, .bool true]
def pvRB (ca pa aa qa : Option Addr) (cn cc pn pc ak az qk qc : Nat) (pol : Int) (b o k c g2 g6 j p : Nat) (x1 px : ByteArray) (s1 : Nat) (f1 t1 : Int) (da1 : Option Addr) (dn1 dc1 : Nat) : List Value := [.agg #[.slice ca cn cc, .slice pa pn pc, .slice aa ak az, .slice qa qk qc, .int .u8 pol], .agg #[.string x1, .int .u32 (s1 : Int), .int .i64 f1, .int .i64 t1, .slice da1 dn1 dc1], .bool true, .bool false, .bool false, .int .i64 (j : Int), .bool false, .bool false, undef, undef, undef, undef, undef, undef, undef, undef, undef, .bool false, .bool false]
def pvRC (ca pa aa qa : Option Addr) (cn cc pn pc ak az qk qc : Nat) (pol : Int) (b o k c g2 g6 j p : Nat) (x1 px : ByteArray) (s1 : Nat) (f1 t1 : Int) (da1 : Option Addr) (dn1 dc1 : Nat) : List Value := [.agg #[.slice ca cn cc, .slice pa pn pc, .slice aa ak az, .slice qa qk qc, .int .u8 pol], .agg #[.string x1, .int .u32 (s1 : Int), .int .i64 f1, .int .i64 t1, .slice da1 dn1 dc1], .bool true, .bool false, .bool false, .int .i64 (j : Int), .bool true, .bool true, .slice (some ⟨b, o, none⟩) k c, .int .i64 (j : Int), .int .i64 (p : Int), .pointer (some ⟨b, o + p * 5, none⟩), .pointer (some ⟨b, o + p * 5, none⟩), .string px, .pointer (some ⟨g6, 0, none⟩), .string x1, .bool false, .bool false, .bool false]
def pvRD (ca pa aa qa : Option Addr) (cn cc pn pc ak az qk qc : Nat) (pol : Int) (b o k c g2 g6 j p : Nat) (x1 px : ByteArray) (s1 : Nat) (f1 t1 : Int) (da1 : Option Addr) (dn1 dc1 : Nat) : List Value := [.agg #[.slice ca cn cc, .slice pa pn pc, .slice aa ak az, .slice qa qk qc, .int .u8 pol], .agg #[.string x1, .int .u32 (s1 : Int), .int .i64 f1, .int .i64 t1, .slice da1 dn1 dc1], .bool true, .bool false, .bool false, .int .i64 (j : Int), .bool true, .bool true, .slice (some ⟨b, o, none⟩) k c, .int .i64 (j : Int), .int .i64 (p : Int), .pointer (some ⟨b, o + p * 5, none⟩), .pointer (some ⟨b, o + p * 5, none⟩), .string px, .pointer (some ⟨g6, 0, none⟩), .string x1, .bool true, .bool true, .bool true]

def OkTo2 (cn : Nat) (A : List Acc) (V : List Vw) (j : Nat) : Prop := ∀ i, i < j → okB cn A V i = true
theorem rl_bad {rc : Bool} {cn : Nat} {A : List Acc} {V : List Vw} {i : Nat} (hi : i < V.length) (h : okB cn A V i = false) : rlB rc cn A V = false := by
  unfold rlB
  have : (List.range V.length).all (okB cn A V) = false := by
    rw [List.all_eq_false]; exact ⟨i, List.mem_range.2 hi, by rw [h]; simp⟩
  rw [this]; simp
theorem rl_ok {rc : Bool} {cn : Nat} {A : List Acc} {V : List Vw} (hr : rc = true) (hl : V.length ≤ 16) (h : OkTo2 cn A V V.length) : rlB rc cn A V = !clB V := by
  unfold rlB
  have : (List.range V.length).all (okB cn A V) = true := by
    rw [List.all_eq_true]; exact fun i hi => h i (List.mem_range.1 hi)
  rw [this, hr, decide_eq_true hl]; rfl
theorem rl_no {cn : Nat} {A : List Acc} {V : List Vw} : rlB false cn A V = false := rfl
theorem rl_long {rc : Bool} {cn : Nat} {A : List Acc} {V : List Vw} (h : 16 < V.length) : rlB rc cn A V = false := by
  unfold rlB
  rw [decide_eq_false (by omega : ¬ V.length ≤ 16)]; simp
theorem ok_may {cn : Nat} {A : List Acc} {V : List Vw} {i : Nat} (h : mayB cn A (vAt V i) = false) : okB cn A V i = false := by unfold okB; rw [h]; rfl

set_option maxRecDepth 100000 in
set_option maxHeartbeats 4000000 in
theorem rright_any (ca pa aa qa : Option Addr) (cn cc pn pc ak az qk qc : Nat) (pol : Int) (Z : List Int) (M0 : List (Prt × List ByteArray)) (A : List Acc) (Q : List Qu) (a : Option Addr) (k c : Nat) (M : List (Prt × List ByteArray)) (w : World) (hC : CfR w ca pa aa qa cn pn ak az qk Z M0 A Q) (hR : RL w a k M) (hkc : k ≤ c) :
    Calls Try.prog 6 #[.agg #[.slice ca cn cc, .slice pa pn pc, .slice aa ak az, .slice qa qk qc, .int .u8 pol], .slice a k c] w fun e w' => e = .returned (.bool (rlB (rcB Z M0 A Q pol) cn A (M.map vw))) ∧ Below w.heap.size w w' := by
  obtain ⟨W1, hW1⟩ : ∃ W1, W1 = w.alloc (.cells #[.slice ca cn cc, .slice pa pn pc, .slice aa ak az, .slice qa qk qc, .int .u8 pol] 28) := ⟨_, rfl⟩
  have b1 : Below w.heap.size w W1 := by rw [hW1]; exact below_lit _ _
  have v0 : W1.cell? ⟨w.heap.size, 0, none⟩ = some (.slice ca cn cc) := by rw [hW1]; exact lit_cell _ _ _ _ _ rfl
  have v1 : W1.cell? ⟨w.heap.size, 1, none⟩ = some (.slice pa pn pc) := by rw [hW1]; exact lit_cell _ _ _ _ _ rfl
  have v2 : W1.cell? ⟨w.heap.size, 2, none⟩ = some (.slice aa ak az) := by rw [hW1]; exact lit_cell _ _ _ _ _ rfl
  have v3 : W1.cell? ⟨w.heap.size, 3, none⟩ = some (.slice qa qk qc) := by rw [hW1]; exact lit_cell _ _ _ _ _ rfl
  have v4 : W1.cell? ⟨w.heap.size, 4, none⟩ = some (.int .u8 pol) := by rw [hW1]; exact lit_cell _ _ _ _ _ rfl
  have kP := prt_any ca pa aa qa cn cc pn pc ak az qk qc pol Z M0 A Q W1 (hC.below b1)
  have kX := fun w' (hb : Below w.heap.size w w') => clash_any a k c M w' (hR.below hb) hkc
  have hl := hR.le
  have hn : M.length = k := hR.len
  have hmn : (M.map (·.1)).length = k := by rw [List.length_map]; exact hn
  have hvn : (M.map vw).length = k := by rw [List.length_map]; exact hn
  replace hn := hid hn
  replace hmn := hid hmn
  replace hvn := hid hvn
  replace hR := hid hR
  replace hC := hid hC
  generalize hrc : rcB Z M0 A Q pol = rc at *
  generalize hRR : rlB rc cn A (M.map vw) = RR at *
  replace hRR := hid hRR
  replace hrc := hid hrc
  have hlt1 := World.block_lt_of_cell? W1 _ v0
  go_enter Try.func6, Try.ntmps6
  go_wp2_with fail
  rw [← hW1]
  replace hW1 := hid hW1
  refine kP.mono ?_
  rintro e w1 ⟨rfl, hb1⟩
  have D1 := bnext b1 hb1
  replace v0 := stay hb1 v0
  replace v1 := stay hb1 v1
  replace v2 := stay hb1 v2
  replace v3 := stay hb1 v3
  replace v4 := stay hb1 v4
  clear hlt1 kP hb1 b1
  generalize hg2 : w.heap.size = g2 at v0 v1 v2 v3 v4 ⊢
  replace hg2 := hid hg2
  cases rc with
  | false =>
    have hf := hid (show RR = false by rw [← hRR.out]; rfl)
    go_wp2
    go_ret
    exact ⟨ret_bool hf.out.symm, D1⟩
  | true =>
    by_cases h16 : 16 < k
    · have hf := hid (show RR = false by rw [← hRR.out]; exact rl_long (by rw [hvn.out]; exact h16))
      have d16 : decide ((16 : Int) < (k : Int)) = true := by simp; omega
      go_wp2
      go_ret
      exact ⟨ret_bool hf.out.symm, D1⟩
    have d16 : decide ((16 : Int) < (k : Int)) = false := by simp; omega
    go_wp2_with fail
    go_loopw [17] (fun i wr => ∃ j : Nat, j ≤ k ∧ i = .int .i64 (j : Int) ∧ Hid (OkTo2 cn A (M.map vw) j) ∧ Below w1.heap.size w1 wr) (fun i _ => k - (intOf i).toNat)
    case atStart => exact ⟨0, Nat.zero_le _, rfl, hid (fun i hi => by omega), Below.refl _ _⟩
    case round =>
      obtain ⟨j, hj, rfl, hok, hb⟩ := hrel
      have D := bnext D1 hb
      by_cases hlt : j < k
      · have hjL : j < (M.map (·.1)).length := by rw [hmn.out]; exact hlt
        have hjM : j < M.length := by rw [hn.out]; exact hlt
        have hjV : Hid (j < (M.map vw).length) := hid (by rw [hvn.out]; exact hlt)
        obtain ⟨b, o, e⟩ := hR.out.mat.place (by omega)
        subst e
        obtain ⟨q0, q1, q2, q3, q4⟩ := (hR.out.mat.below D).one hjL
        have hv1 := hid (vAt_vw hjM)
        obtain ⟨s1, hs1, hs1b⟩ := hR.out.set _ (mAt_mem hjM)
        obtain ⟨hT1, hT2, hT3⟩ := hR.out.inn _ (mAt_mem hjM)
        rw [mAt_fst hjM] at q0 q1 q2 q3 q4
        generalize mAt M j = MJ at *
        obtain ⟨⟨x1, sz1, f1, t1, da1, dn1, dc1⟩, T1⟩ := MJ
        dsimp only at *
        subst hs1
        obtain ⟨W2, hW2⟩ : ∃ W2, W2 = wr.alloc (.cells #[.string x1, .int .u32 (s1 : Int), .int .i64 f1, .int .i64 t1, .slice da1 dn1 dc1] 38) := ⟨_, rfl⟩
        have b2 : Below wr.heap.size wr W2 := by rw [hW2]; exact below_lit _ _
        have c10 : W2.cell? ⟨wr.heap.size, 0, none⟩ = some (.string x1) := by rw [hW2]; exact lit_cell _ _ _ _ _ rfl
        have c11 : W2.cell? ⟨wr.heap.size, 1, none⟩ = some (.int .u32 (s1 : Int)) := by rw [hW2]; exact lit_cell _ _ _ _ _ rfl
        have c12 : W2.cell? ⟨wr.heap.size, 2, none⟩ = some (.int .i64 f1) := by rw [hW2]; exact lit_cell _ _ _ _ _ rfl
        have c13 : W2.cell? ⟨wr.heap.size, 3, none⟩ = some (.int .i64 t1) := by rw [hW2]; exact lit_cell _ _ _ _ _ rfl
        have c14 : W2.cell? ⟨wr.heap.size, 4, none⟩ = some (.slice da1 dn1 dc1) := by rw [hW2]; exact lit_cell _ _ _ _ _ rfl
        have hb2 := bnext hb b2
        replace v0 := stay hb2 v0
        replace v1 := stay hb2 v1
        replace v2 := stay hb2 v2
        replace v3 := stay hb2 v3
        replace v4 := stay hb2 v4
        have D2 := bnext D b2
        have kM := hid (fun w' (hb : Below W2.heap.size W2 w') => maybe_any ca pa aa qa cn cc pn pc ak az qk qc pol A x1 s1 f1 t1 da1 dn1 dc1 T1 w' hs1b hC.out.al hC.out.ab (hC.out.aat.below (bnext D2 hb)) hT1 hT3 (hT2.below (bnext D2 hb)))
        have hmay : Hid (mayB cn A (vAt (M.map vw) j) = mayB cn A ⟨x1, s1, f1, t1, T1⟩) := hid (by rw [hv1.out]; rfl)
        replace hT1 := hid hT1
        replace hT2 := hid hT2
        replace D := hid D
        go_wp2_with fail
        rw [← hW2]
        replace hW2 := hid hW2
        generalize wr.heap.size = g6 at *
        generalize hB : mayB cn A ⟨x1, s1, f1, t1, T1⟩ = Bm at *
        replace hB := hid hB
        cases Bm with
        | false =>
          have hf := hid (show RR = false by rw [← hRR.out]; exact rl_bad hjV.out (ok_may hmay.out))
          have p : Nat := 0
          have px : ByteArray := x1
          refine wp_region_drawn (Rel := fun w w' => Below w.heap.size w w') (Pr := PrV (pvRA ca pa aa qa cn cc pn pc ak az qk qc pol b o k c g2 g6 j p x1 px s1 f1 t1 da1 dn1 dc1) [] (fun _ _ _ => True)) (by kernel_rfl) (by kernel_rfl) (drew_below _) bel_tr (PrV.mono (fun _ _ _ _ _ _ => trivial)) ?_ ?_
          · refine ⟨?_, ?_, ?_, ?_, ?_, ?_, ?_, ?_, ?_, ?_, ?_, ?_, ?_, ?_, ?_, ?_, ?_, ?_, ?_, trivial⟩
            · intro ac w hR hd hk K hK
              have e2 : ac.tmps[2]?.getD undef = (.pointer (some ⟨g2, 0, none⟩) : Value) := slot (get_keep (hk 2 (no_dst (by kernel_rfl))) rfl)
              have z0 := stay hR v0
              have z1 := stay hR v1
              have z2 := stay hR v2
              have z3 := stay hR v3
              have z4 := stay hR v4
              refine yes (want_n rfl) ?_
              have hv := hid (hK (.agg #[.slice ca cn cc, .slice pa pn pc, .slice aa ak az, .slice qa qk qc, .int .u8 pol]) w (PrV.is rfl rfl) (Below.refl _ _))
              go_simp
              refine kq hv.out ?_
              rfl
            · intro ac w hR hd hk K hK
              have e6 : ac.tmps[6]?.getD undef = (.pointer (some ⟨g6, 0, none⟩) : Value) := slot (get_keep (hk 6 (no_dst (by kernel_rfl))) rfl)
              have z0 := stay hR c10
              have z1 := stay hR c11
              have z2 := stay hR c12
              have z3 := stay hR c13
              have z4 := stay hR c14
              refine yes (want_n rfl) ?_
              have hv := hid (hK (.agg #[.string x1, .int .u32 (s1 : Int), .int .i64 f1, .int .i64 t1, .slice da1 dn1 dc1]) w (PrV.is rfl rfl) (Below.refl _ _))
              go_simp
              refine kq hv.out ?_
              rfl
            · exact fun ac w hR hd hk K hK => yes (want_n rfl) (wp_callv 14 _ _ rfl _ Try.func14 rfl rfl _ (args2 ((hd 0 _ 22 rfl rfl rfl).val rfl) ((hd 1 _ 23 rfl rfl rfl).val rfl)) (kM.out w hR) (by rintro e w' ⟨rfl, hb⟩; exact ⟨_, rfl, hK _ w' (PrV.is rfl rfl) (hb)⟩))
            · intro ac w hR hd hk K hK
              have e24 : ac.tmps[24]?.getD undef = (.bool false : Value) := slot ((hd 2 _ 24 rfl rfl rfl).val rfl)
              refine yes (want_n rfl) ?_
              have hv := hid (hK (.bool true) w (PrV.is rfl rfl) (Below.refl _ _))
              go_simp
              refine kq hv.out ?_
              rfl
            · exact fun ac w hR hd hk K hK => yes (want_n rfl) (wp_mv _ rfl _ ((hd 3 _ 25 rfl rfl rfl).val rfl) (hK _ w (PrV.is rfl rfl) (Below.refl _ _)))
            · exact fun ac w hR hd hk K hK => nope (want_f rfl rfl ((hd 4 _ 26 rfl rfl rfl).val rfl) (by decide)) (hK _ w (PrV.is rfl rfl) (Below.refl _ _))
            · exact fun ac w hR hd hk K hK => nope (want_f rfl rfl ((hd 4 _ 26 rfl rfl rfl).val rfl) (by decide)) (hK _ w (PrV.is rfl rfl) (Below.refl _ _))
            · exact fun ac w hR hd hk K hK => nope (want_f rfl rfl ((hd 4 _ 26 rfl rfl rfl).val rfl) (by decide)) (hK _ w (PrV.is rfl rfl) (Below.refl _ _))
            · exact fun ac w hR hd hk K hK => nope (want_u rfl rfl ((hd 7 _ 29 rfl rfl rfl).val rfl)) (hK _ w (PrV.is rfl rfl) (Below.refl _ _))
            · exact fun ac w hR hd hk K hK => nope (want_u rfl rfl ((hd 7 _ 29 rfl rfl rfl).val rfl)) (hK _ w (PrV.is rfl rfl) (Below.refl _ _))
            · exact fun ac w hR hd hk K hK => nope (want_u rfl rfl ((hd 7 _ 29 rfl rfl rfl).val rfl)) (hK _ w (PrV.is rfl rfl) (Below.refl _ _))
            · exact fun ac w hR hd hk K hK => nope (want_u rfl rfl ((hd 7 _ 29 rfl rfl rfl).val rfl)) (hK _ w (PrV.is rfl rfl) (Below.refl _ _))
            · exact fun ac w hR hd hk K hK => nope (want_u rfl rfl ((hd 7 _ 29 rfl rfl rfl).val rfl)) (hK _ w (PrV.is rfl rfl) (Below.refl _ _))
            · exact fun ac w hR hd hk K hK => nope (want_u rfl rfl ((hd 7 _ 29 rfl rfl rfl).val rfl)) (hK _ w (PrV.is rfl rfl) (Below.refl _ _))
            · exact fun ac w hR hd hk K hK => nope (want_u rfl rfl ((hd 7 _ 29 rfl rfl rfl).val rfl)) (hK _ w (PrV.is rfl rfl) (Below.refl _ _))
            · exact fun ac w hR hd hk K hK => nope (want_u rfl rfl ((hd 7 _ 29 rfl rfl rfl).val rfl)) (hK _ w (PrV.is rfl rfl) (Below.refl _ _))
            · exact fun ac w hR hd hk K hK => nope (want_u rfl rfl ((hd 7 _ 29 rfl rfl rfl).val rfl)) (hK _ w (PrV.is rfl rfl) (Below.refl _ _))
            · exact fun ac w hR hd hk K hK => nope (want_f rfl rfl ((hd 4 _ 26 rfl rfl rfl).val rfl) (by decide)) (hK _ w (PrV.is rfl rfl) (Below.refl _ _))
            · exact fun ac w hR hd hk K hK => yes (want_n rfl) (wp_pick _ _ _ rfl true _ ((hd 4 _ 26 rfl rfl rfl).val rfl) rfl (hK _ w (PrV.is rfl rfl) (Below.refl _ _)))
          · intro a w8 hdf hsz hkp hval hRw
            obtain ⟨f, hf⟩ : ∃ f, f = fun d => a.tmps.getD d undef := ⟨_, rfl⟩
            have h40 : f 40 = .bool true := by rw [hf]; exact (hval 18 _ 40 rfl rfl).val rfl
            have hfa := act_filled hdf hsz hkp
            rw [← hf] at hfa
            rw [hfa]
            clear hdf hsz hkp hval hfa hf
            clear a
            simp only [fillAll, List.set_cons_zero, List.set_cons_succ, h40]
            clear h40
            go_wp2
            go_ret
            exact ⟨ret_bool hf.out.symm, bnext D2 hRw⟩
        | true =>
          rcases Nat.eq_zero_or_pos j with hz | hz
          · have hok2 : Hid (OkTo2 cn A (M.map vw) (j + 1)) := hid fun i hi => by
              rcases Nat.lt_or_ge i j with h' | h'
              · exact hok.out i h'
              · obtain rfl : i = j := by omega
                unfold okB; rw [hmay.out, decide_eq_true hz]; rfl
            have hj0 : decide ((0 : Int) < (j : Int)) = false := by simp; omega
            have p : Nat := 0
            have px : ByteArray := x1
            refine wp_region_drawn (Rel := fun w w' => Below w.heap.size w w') (Pr := PrV (pvRB ca pa aa qa cn cc pn pc ak az qk qc pol b o k c g2 g6 j p x1 px s1 f1 t1 da1 dn1 dc1) [] (fun _ _ _ => True)) (by kernel_rfl) (by kernel_rfl) (drew_below _) bel_tr (PrV.mono (fun _ _ _ _ _ _ => trivial)) ?_ ?_
            · refine ⟨?_, ?_, ?_, ?_, ?_, ?_, ?_, ?_, ?_, ?_, ?_, ?_, ?_, ?_, ?_, ?_, ?_, ?_, ?_, trivial⟩
              · intro ac w hR hd hk K hK
                have e2 : ac.tmps[2]?.getD undef = (.pointer (some ⟨g2, 0, none⟩) : Value) := slot (get_keep (hk 2 (no_dst (by kernel_rfl))) rfl)
                have z0 := stay hR v0
                have z1 := stay hR v1
                have z2 := stay hR v2
                have z3 := stay hR v3
                have z4 := stay hR v4
                refine yes (want_n rfl) ?_
                have hv := hid (hK (.agg #[.slice ca cn cc, .slice pa pn pc, .slice aa ak az, .slice qa qk qc, .int .u8 pol]) w (PrV.is rfl rfl) (Below.refl _ _))
                go_simp
                refine kq hv.out ?_
                rfl
              · intro ac w hR hd hk K hK
                have e6 : ac.tmps[6]?.getD undef = (.pointer (some ⟨g6, 0, none⟩) : Value) := slot (get_keep (hk 6 (no_dst (by kernel_rfl))) rfl)
                have z0 := stay hR c10
                have z1 := stay hR c11
                have z2 := stay hR c12
                have z3 := stay hR c13
                have z4 := stay hR c14
                refine yes (want_n rfl) ?_
                have hv := hid (hK (.agg #[.string x1, .int .u32 (s1 : Int), .int .i64 f1, .int .i64 t1, .slice da1 dn1 dc1]) w (PrV.is rfl rfl) (Below.refl _ _))
                go_simp
                refine kq hv.out ?_
                rfl
              · exact fun ac w hR hd hk K hK => yes (want_n rfl) (wp_callv 14 _ _ rfl _ Try.func14 rfl rfl _ (args2 ((hd 0 _ 22 rfl rfl rfl).val rfl) ((hd 1 _ 23 rfl rfl rfl).val rfl)) (kM.out w hR) (by rintro e w' ⟨rfl, hb⟩; exact ⟨_, rfl, hK _ w' (PrV.is rfl rfl) (hb)⟩))
              · intro ac w hR hd hk K hK
                have e24 : ac.tmps[24]?.getD undef = (.bool true : Value) := slot ((hd 2 _ 24 rfl rfl rfl).val rfl)
                refine yes (want_n rfl) ?_
                have hv := hid (hK (.bool false) w (PrV.is rfl rfl) (Below.refl _ _))
                go_simp
                refine kq hv.out ?_
                rfl
              · exact fun ac w hR hd hk K hK => yes (want_n rfl) (wp_mv _ rfl _ ((hd 3 _ 25 rfl rfl rfl).val rfl) (hK _ w (PrV.is rfl rfl) (Below.refl _ _)))
              · exact fun ac w hR hd hk K hK => yes (want_g rfl rfl ((hd 4 _ 26 rfl rfl rfl).val rfl)) (wp_mv _ rfl _ (get_keep (hk 5 (no_dst (by kernel_rfl))) rfl) (hK _ w (PrV.is rfl rfl) (Below.refl _ _)))
              · intro ac w hR hd hk K hK
                have e27 : ac.tmps[27]?.getD undef = (.int .i64 (j : Int) : Value) := slot ((hd 5 _ 27 rfl rfl rfl).val rfl)
                have hj9 := hj0
                refine yes (want_g rfl rfl ((hd 4 _ 26 rfl rfl rfl).val rfl)) ?_
                have hv := hid (hK (.bool false) w (PrV.is rfl rfl) (Below.refl _ _))
                go_simp
                refine kq hv.out ?_
                rfl
              · exact fun ac w hR hd hk K hK => yes (want_g rfl rfl ((hd 4 _ 26 rfl rfl rfl).val rfl)) (wp_mv _ rfl _ ((hd 6 _ 28 rfl rfl rfl).val rfl) (hK _ w (PrV.is rfl rfl) (Below.refl _ _)))
              · exact fun ac w hR hd hk K hK => nope (want_f rfl rfl ((hd 7 _ 29 rfl rfl rfl).val rfl) (by decide)) (hK _ w (PrV.is rfl rfl) (Below.refl _ _))
              · exact fun ac w hR hd hk K hK => nope (want_f rfl rfl ((hd 7 _ 29 rfl rfl rfl).val rfl) (by decide)) (hK _ w (PrV.is rfl rfl) (Below.refl _ _))
              · exact fun ac w hR hd hk K hK => nope (want_f rfl rfl ((hd 7 _ 29 rfl rfl rfl).val rfl) (by decide)) (hK _ w (PrV.is rfl rfl) (Below.refl _ _))
              · exact fun ac w hR hd hk K hK => nope (want_f rfl rfl ((hd 7 _ 29 rfl rfl rfl).val rfl) (by decide)) (hK _ w (PrV.is rfl rfl) (Below.refl _ _))
              · exact fun ac w hR hd hk K hK => nope (want_f rfl rfl ((hd 7 _ 29 rfl rfl rfl).val rfl) (by decide)) (hK _ w (PrV.is rfl rfl) (Below.refl _ _))
              · exact fun ac w hR hd hk K hK => nope (want_f rfl rfl ((hd 7 _ 29 rfl rfl rfl).val rfl) (by decide)) (hK _ w (PrV.is rfl rfl) (Below.refl _ _))
              · exact fun ac w hR hd hk K hK => nope (want_f rfl rfl ((hd 7 _ 29 rfl rfl rfl).val rfl) (by decide)) (hK _ w (PrV.is rfl rfl) (Below.refl _ _))
              · exact fun ac w hR hd hk K hK => nope (want_f rfl rfl ((hd 7 _ 29 rfl rfl rfl).val rfl) (by decide)) (hK _ w (PrV.is rfl rfl) (Below.refl _ _))
              · exact fun ac w hR hd hk K hK => nope (want_f rfl rfl ((hd 7 _ 29 rfl rfl rfl).val rfl) (by decide)) (hK _ w (PrV.is rfl rfl) (Below.refl _ _))
              · exact fun ac w hR hd hk K hK => yes (want_g rfl rfl ((hd 4 _ 26 rfl rfl rfl).val rfl)) (wp_pick _ _ _ rfl false _ ((hd 7 _ 29 rfl rfl rfl).val rfl) rfl (hK _ w (PrV.is rfl rfl) (Below.refl _ _)))
              · exact fun ac w hR hd hk K hK => yes (want_n rfl) (wp_pick _ _ _ rfl false _ ((hd 4 _ 26 rfl rfl rfl).val rfl) ((hd 17 _ 39 rfl rfl rfl).val rfl) (hK _ w (PrV.is rfl rfl) (Below.refl _ _)))
            · intro a w8 hdf hsz hkp hval hRw
              obtain ⟨f, hf⟩ : ∃ f, f = fun d => a.tmps.getD d undef := ⟨_, rfl⟩
              have h40 : f 40 = .bool false := by rw [hf]; exact (hval 18 _ 40 rfl rfl).val rfl
              have hfa := act_filled hdf hsz hkp
              rw [← hf] at hfa
              rw [hfa]
              clear hdf hsz hkp hval hfa hf
              clear a
              simp only [fillAll, List.set_cons_zero, List.set_cons_succ, h40]
              clear h40
              go_wp2_with fail
              go_roundw
              case rel => exact ⟨j + 1, by omega, by go_num, hok2, bnext hb2 hRw⟩
              case measure => simp [intOf]; omega
          · obtain ⟨p, hp⟩ : ∃ p, p = j - 1 := ⟨_, rfl⟩
            have hpL : p < (M.map (·.1)).length := by rw [hmn.out]; omega
            have hpM : p < M.length := by rw [hn.out]; omega
            have hj0 : decide ((0 : Int) < (j : Int)) = true := by simp; omega
            have hpk : (p : Int) < (k : Int) := by omega
            have hjp : IntKind.i64.wrap ((j : Int) - 1) = (p : Int) := by rw [wrapEq]; unfold wrap64; omega
            obtain ⟨y0, _, _, _, _⟩ := (hR.out.mat.below D2).one hpL
            have hv2 := vAt_vw hpM
            rw [mAt_fst hpM] at y0
            obtain ⟨px, hpx⟩ : ∃ px, px = (mAt M p).1.name := ⟨_, rfl⟩
            rw [← hpx] at y0
            have hokj : Hid (okB cn A (M.map vw) j = lessB px x1) := hid (by
              have e1 : (vAt (M.map vw) (j - 1)).name = px := by rw [← hp, hv2, hpx]; rfl
              have e2 : (vAt (M.map vw) j).name = x1 := by rw [hv1.out]; rfl
              unfold okB
              rw [hmay.out, e1, e2, decide_eq_false (by omega : ¬ j = 0)]; rfl)
            replace hv2 := hid hv2
            replace hpx := hid hpx
            replace hp := hid hp
            rw [← less_of] at hokj
            cases hless : Op.bytesLess px.toList x1.toList with
            | true =>
              rw [hless] at hokj
              have hok2 : Hid (OkTo2 cn A (M.map vw) (j + 1)) := hid fun i hi => by
                rcases Nat.lt_or_ge i j with h' | h'
                · exact hok.out i h'
                · obtain rfl : i = j := by omega
                  exact hokj.out
              refine wp_region_drawn (Rel := fun w w' => Below w.heap.size w w') (Pr := PrV (pvRC ca pa aa qa cn cc pn pc ak az qk qc pol b o k c g2 g6 j p x1 px s1 f1 t1 da1 dn1 dc1) [] (fun _ _ _ => True)) (by kernel_rfl) (by kernel_rfl) (drew_below _) bel_tr (PrV.mono (fun _ _ _ _ _ _ => trivial)) ?_ ?_
              · refine ⟨?_, ?_, ?_, ?_, ?_, ?_, ?_, ?_, ?_, ?_, ?_, ?_, ?_, ?_, ?_, ?_, ?_, ?_, ?_, trivial⟩
                · intro ac w hR hd hk K hK
                  have e2 : ac.tmps[2]?.getD undef = (.pointer (some ⟨g2, 0, none⟩) : Value) := slot (get_keep (hk 2 (no_dst (by kernel_rfl))) rfl)
                  have z0 := stay hR v0
                  have z1 := stay hR v1
                  have z2 := stay hR v2
                  have z3 := stay hR v3
                  have z4 := stay hR v4
                  refine yes (want_n rfl) ?_
                  have hv := hid (hK (.agg #[.slice ca cn cc, .slice pa pn pc, .slice aa ak az, .slice qa qk qc, .int .u8 pol]) w (PrV.is rfl rfl) (Below.refl _ _))
                  go_simp
                  refine kq hv.out ?_
                  rfl
                · intro ac w hR hd hk K hK
                  have e6 : ac.tmps[6]?.getD undef = (.pointer (some ⟨g6, 0, none⟩) : Value) := slot (get_keep (hk 6 (no_dst (by kernel_rfl))) rfl)
                  have z0 := stay hR c10
                  have z1 := stay hR c11
                  have z2 := stay hR c12
                  have z3 := stay hR c13
                  have z4 := stay hR c14
                  refine yes (want_n rfl) ?_
                  have hv := hid (hK (.agg #[.string x1, .int .u32 (s1 : Int), .int .i64 f1, .int .i64 t1, .slice da1 dn1 dc1]) w (PrV.is rfl rfl) (Below.refl _ _))
                  go_simp
                  refine kq hv.out ?_
                  rfl
                · exact fun ac w hR hd hk K hK => yes (want_n rfl) (wp_callv 14 _ _ rfl _ Try.func14 rfl rfl _ (args2 ((hd 0 _ 22 rfl rfl rfl).val rfl) ((hd 1 _ 23 rfl rfl rfl).val rfl)) (kM.out w hR) (by rintro e w' ⟨rfl, hb⟩; exact ⟨_, rfl, hK _ w' (PrV.is rfl rfl) (hb)⟩))
                · intro ac w hR hd hk K hK
                  have e24 : ac.tmps[24]?.getD undef = (.bool true : Value) := slot ((hd 2 _ 24 rfl rfl rfl).val rfl)
                  refine yes (want_n rfl) ?_
                  have hv := hid (hK (.bool false) w (PrV.is rfl rfl) (Below.refl _ _))
                  go_simp
                  refine kq hv.out ?_
                  rfl
                · exact fun ac w hR hd hk K hK => yes (want_n rfl) (wp_mv _ rfl _ ((hd 3 _ 25 rfl rfl rfl).val rfl) (hK _ w (PrV.is rfl rfl) (Below.refl _ _)))
                · exact fun ac w hR hd hk K hK => yes (want_g rfl rfl ((hd 4 _ 26 rfl rfl rfl).val rfl)) (wp_mv _ rfl _ (get_keep (hk 5 (no_dst (by kernel_rfl))) rfl) (hK _ w (PrV.is rfl rfl) (Below.refl _ _)))
                · intro ac w hR hd hk K hK
                  have e27 : ac.tmps[27]?.getD undef = (.int .i64 (j : Int) : Value) := slot ((hd 5 _ 27 rfl rfl rfl).val rfl)
                  have hj9 := hj0
                  refine yes (want_g rfl rfl ((hd 4 _ 26 rfl rfl rfl).val rfl)) ?_
                  have hv := hid (hK (.bool true) w (PrV.is rfl rfl) (Below.refl _ _))
                  go_simp
                  refine kq hv.out ?_
                  rfl
                · exact fun ac w hR hd hk K hK => yes (want_g rfl rfl ((hd 4 _ 26 rfl rfl rfl).val rfl)) (wp_mv _ rfl _ ((hd 6 _ 28 rfl rfl rfl).val rfl) (hK _ w (PrV.is rfl rfl) (Below.refl _ _)))
                · exact fun ac w hR hd hk K hK => yes (want_g rfl rfl ((hd 7 _ 29 rfl rfl rfl).val rfl)) (wp_mv _ rfl _ (get_keep (hk 1 (no_dst (by kernel_rfl))) rfl) (hK _ w (PrV.is rfl rfl) (Below.refl _ _)))
                · exact fun ac w hR hd hk K hK => yes (want_g rfl rfl ((hd 7 _ 29 rfl rfl rfl).val rfl)) (wp_mv _ rfl _ (get_keep (hk 5 (no_dst (by kernel_rfl))) rfl) (hK _ w (PrV.is rfl rfl) (Below.refl _ _)))
                · intro ac w hR hd hk K hK
                  have e31 : ac.tmps[31]?.getD undef = (.int .i64 (j : Int) : Value) := slot ((hd 9 _ 31 rfl rfl rfl).val rfl)
                  have hj9 := hjp
                  refine yes (want_g rfl rfl ((hd 7 _ 29 rfl rfl rfl).val rfl)) ?_
                  have hv := hid (hK (.int .i64 (p : Int)) w (PrV.is rfl rfl) (Below.refl _ _))
                  go_simp
                  refine kq hv.out ?_
                  rfl
                · intro ac w hR hd hk K hK
                  have e30 : ac.tmps[30]?.getD undef = (.slice (some ⟨b, o, none⟩) k c : Value) := slot ((hd 8 _ 30 rfl rfl rfl).val rfl)
                  have e32 : ac.tmps[32]?.getD undef = (.int .i64 (p : Int) : Value) := slot ((hd 10 _ 32 rfl rfl rfl).val rfl)
                  have hj9 := hpk
                  refine yes (want_g rfl rfl ((hd 7 _ 29 rfl rfl rfl).val rfl)) ?_
                  have hv := hid (hK (.pointer (some ⟨b, o + p * 5, none⟩)) w (PrV.is rfl rfl) (Below.refl _ _))
                  go_simp
                  refine kq hv.out ?_
                  rfl
                · intro ac w hR hd hk K hK
                  have e33 : ac.tmps[33]?.getD undef = (.pointer (some ⟨b, o + p * 5, none⟩) : Value) := slot ((hd 11 _ 33 rfl rfl rfl).val rfl)
                  refine yes (want_g rfl rfl ((hd 7 _ 29 rfl rfl rfl).val rfl)) ?_
                  have hv := hid (hK (.pointer (some ⟨b, o + p * 5, none⟩)) w (PrV.is rfl rfl) (Below.refl _ _))
                  go_simp
                  refine kq hv.out ?_
                  rfl
                · intro ac w hR hd hk K hK
                  have e34 : ac.tmps[34]?.getD undef = (.pointer (some ⟨b, o + p * 5, none⟩) : Value) := slot ((hd 12 _ 34 rfl rfl rfl).val rfl)
                  have z0 := stay hR y0
                  refine yes (want_g rfl rfl ((hd 7 _ 29 rfl rfl rfl).val rfl)) ?_
                  have hv := hid (hK (.string px) w (PrV.is rfl rfl) (Below.refl _ _))
                  go_simp
                  refine kq hv.out ?_
                  rfl
                · intro ac w hR hd hk K hK
                  have e6 : ac.tmps[6]?.getD undef = (.pointer (some ⟨g6, 0, none⟩) : Value) := slot (get_keep (hk 6 (no_dst (by kernel_rfl))) rfl)
                  refine yes (want_g rfl rfl ((hd 7 _ 29 rfl rfl rfl).val rfl)) ?_
                  have hv := hid (hK (.pointer (some ⟨g6, 0, none⟩)) w (PrV.is rfl rfl) (Below.refl _ _))
                  go_simp
                  refine kq hv.out ?_
                  rfl
                · intro ac w hR hd hk K hK
                  have e36 : ac.tmps[36]?.getD undef = (.pointer (some ⟨g6, 0, none⟩) : Value) := slot ((hd 14 _ 36 rfl rfl rfl).val rfl)
                  have z0 := stay hR c10
                  refine yes (want_g rfl rfl ((hd 7 _ 29 rfl rfl rfl).val rfl)) ?_
                  have hv := hid (hK (.string x1) w (PrV.is rfl rfl) (Below.refl _ _))
                  go_simp
                  refine kq hv.out ?_
                  rfl
                · intro ac w hR hd hk K hK
                  have e35 : ac.tmps[35]?.getD undef = (.string px : Value) := slot ((hd 13 _ 35 rfl rfl rfl).val rfl)
                  have e37 : ac.tmps[37]?.getD undef = (.string x1 : Value) := slot ((hd 15 _ 37 rfl rfl rfl).val rfl)
                  have hj9 := hless
                  refine yes (want_g rfl rfl ((hd 7 _ 29 rfl rfl rfl).val rfl)) ?_
                  have hv := hid (hK (.bool false) w (PrV.is rfl rfl) (Below.refl _ _))
                  go_simp
                  refine kq hv.out ?_
                  rfl
                · exact fun ac w hR hd hk K hK => yes (want_g rfl rfl ((hd 4 _ 26 rfl rfl rfl).val rfl)) (wp_pick _ _ _ rfl true _ ((hd 7 _ 29 rfl rfl rfl).val rfl) ((hd 16 _ 38 rfl rfl rfl).val rfl) (hK _ w (PrV.is rfl rfl) (Below.refl _ _)))
                · exact fun ac w hR hd hk K hK => yes (want_n rfl) (wp_pick _ _ _ rfl false _ ((hd 4 _ 26 rfl rfl rfl).val rfl) ((hd 17 _ 39 rfl rfl rfl).val rfl) (hK _ w (PrV.is rfl rfl) (Below.refl _ _)))
              · intro a w8 hdf hsz hkp hval hRw
                obtain ⟨f, hf⟩ : ∃ f, f = fun d => a.tmps.getD d undef := ⟨_, rfl⟩
                have h40 : f 40 = .bool false := by rw [hf]; exact (hval 18 _ 40 rfl rfl).val rfl
                have hfa := act_filled hdf hsz hkp
                rw [← hf] at hfa
                rw [hfa]
                clear hdf hsz hkp hval hfa hf
                clear a
                simp only [fillAll, List.set_cons_zero, List.set_cons_succ, h40]
                clear h40
                go_wp2_with fail
                go_roundw
                case rel => exact ⟨j + 1, by omega, by go_num, hok2, bnext hb2 hRw⟩
                case measure => simp [intOf]; omega
            | false =>
              rw [hless] at hokj
              have hf := hid (show RR = false by rw [← hRR.out]; exact rl_bad hjV.out hokj.out)
              refine wp_region_drawn (Rel := fun w w' => Below w.heap.size w w') (Pr := PrV (pvRD ca pa aa qa cn cc pn pc ak az qk qc pol b o k c g2 g6 j p x1 px s1 f1 t1 da1 dn1 dc1) [] (fun _ _ _ => True)) (by kernel_rfl) (by kernel_rfl) (drew_below _) bel_tr (PrV.mono (fun _ _ _ _ _ _ => trivial)) ?_ ?_
              · refine ⟨?_, ?_, ?_, ?_, ?_, ?_, ?_, ?_, ?_, ?_, ?_, ?_, ?_, ?_, ?_, ?_, ?_, ?_, ?_, trivial⟩
                · intro ac w hR hd hk K hK
                  have e2 : ac.tmps[2]?.getD undef = (.pointer (some ⟨g2, 0, none⟩) : Value) := slot (get_keep (hk 2 (no_dst (by kernel_rfl))) rfl)
                  have z0 := stay hR v0
                  have z1 := stay hR v1
                  have z2 := stay hR v2
                  have z3 := stay hR v3
                  have z4 := stay hR v4
                  refine yes (want_n rfl) ?_
                  have hv := hid (hK (.agg #[.slice ca cn cc, .slice pa pn pc, .slice aa ak az, .slice qa qk qc, .int .u8 pol]) w (PrV.is rfl rfl) (Below.refl _ _))
                  go_simp
                  refine kq hv.out ?_
                  rfl
                · intro ac w hR hd hk K hK
                  have e6 : ac.tmps[6]?.getD undef = (.pointer (some ⟨g6, 0, none⟩) : Value) := slot (get_keep (hk 6 (no_dst (by kernel_rfl))) rfl)
                  have z0 := stay hR c10
                  have z1 := stay hR c11
                  have z2 := stay hR c12
                  have z3 := stay hR c13
                  have z4 := stay hR c14
                  refine yes (want_n rfl) ?_
                  have hv := hid (hK (.agg #[.string x1, .int .u32 (s1 : Int), .int .i64 f1, .int .i64 t1, .slice da1 dn1 dc1]) w (PrV.is rfl rfl) (Below.refl _ _))
                  go_simp
                  refine kq hv.out ?_
                  rfl
                · exact fun ac w hR hd hk K hK => yes (want_n rfl) (wp_callv 14 _ _ rfl _ Try.func14 rfl rfl _ (args2 ((hd 0 _ 22 rfl rfl rfl).val rfl) ((hd 1 _ 23 rfl rfl rfl).val rfl)) (kM.out w hR) (by rintro e w' ⟨rfl, hb⟩; exact ⟨_, rfl, hK _ w' (PrV.is rfl rfl) (hb)⟩))
                · intro ac w hR hd hk K hK
                  have e24 : ac.tmps[24]?.getD undef = (.bool true : Value) := slot ((hd 2 _ 24 rfl rfl rfl).val rfl)
                  refine yes (want_n rfl) ?_
                  have hv := hid (hK (.bool false) w (PrV.is rfl rfl) (Below.refl _ _))
                  go_simp
                  refine kq hv.out ?_
                  rfl
                · exact fun ac w hR hd hk K hK => yes (want_n rfl) (wp_mv _ rfl _ ((hd 3 _ 25 rfl rfl rfl).val rfl) (hK _ w (PrV.is rfl rfl) (Below.refl _ _)))
                · exact fun ac w hR hd hk K hK => yes (want_g rfl rfl ((hd 4 _ 26 rfl rfl rfl).val rfl)) (wp_mv _ rfl _ (get_keep (hk 5 (no_dst (by kernel_rfl))) rfl) (hK _ w (PrV.is rfl rfl) (Below.refl _ _)))
                · intro ac w hR hd hk K hK
                  have e27 : ac.tmps[27]?.getD undef = (.int .i64 (j : Int) : Value) := slot ((hd 5 _ 27 rfl rfl rfl).val rfl)
                  have hj9 := hj0
                  refine yes (want_g rfl rfl ((hd 4 _ 26 rfl rfl rfl).val rfl)) ?_
                  have hv := hid (hK (.bool true) w (PrV.is rfl rfl) (Below.refl _ _))
                  go_simp
                  refine kq hv.out ?_
                  rfl
                · exact fun ac w hR hd hk K hK => yes (want_g rfl rfl ((hd 4 _ 26 rfl rfl rfl).val rfl)) (wp_mv _ rfl _ ((hd 6 _ 28 rfl rfl rfl).val rfl) (hK _ w (PrV.is rfl rfl) (Below.refl _ _)))
                · exact fun ac w hR hd hk K hK => yes (want_g rfl rfl ((hd 7 _ 29 rfl rfl rfl).val rfl)) (wp_mv _ rfl _ (get_keep (hk 1 (no_dst (by kernel_rfl))) rfl) (hK _ w (PrV.is rfl rfl) (Below.refl _ _)))
                · exact fun ac w hR hd hk K hK => yes (want_g rfl rfl ((hd 7 _ 29 rfl rfl rfl).val rfl)) (wp_mv _ rfl _ (get_keep (hk 5 (no_dst (by kernel_rfl))) rfl) (hK _ w (PrV.is rfl rfl) (Below.refl _ _)))
                · intro ac w hR hd hk K hK
                  have e31 : ac.tmps[31]?.getD undef = (.int .i64 (j : Int) : Value) := slot ((hd 9 _ 31 rfl rfl rfl).val rfl)
                  have hj9 := hjp
                  refine yes (want_g rfl rfl ((hd 7 _ 29 rfl rfl rfl).val rfl)) ?_
                  have hv := hid (hK (.int .i64 (p : Int)) w (PrV.is rfl rfl) (Below.refl _ _))
                  go_simp
                  refine kq hv.out ?_
                  rfl
                · intro ac w hR hd hk K hK
                  have e30 : ac.tmps[30]?.getD undef = (.slice (some ⟨b, o, none⟩) k c : Value) := slot ((hd 8 _ 30 rfl rfl rfl).val rfl)
                  have e32 : ac.tmps[32]?.getD undef = (.int .i64 (p : Int) : Value) := slot ((hd 10 _ 32 rfl rfl rfl).val rfl)
                  have hj9 := hpk
                  refine yes (want_g rfl rfl ((hd 7 _ 29 rfl rfl rfl).val rfl)) ?_
                  have hv := hid (hK (.pointer (some ⟨b, o + p * 5, none⟩)) w (PrV.is rfl rfl) (Below.refl _ _))
                  go_simp
                  refine kq hv.out ?_
                  rfl
                · intro ac w hR hd hk K hK
                  have e33 : ac.tmps[33]?.getD undef = (.pointer (some ⟨b, o + p * 5, none⟩) : Value) := slot ((hd 11 _ 33 rfl rfl rfl).val rfl)
                  refine yes (want_g rfl rfl ((hd 7 _ 29 rfl rfl rfl).val rfl)) ?_
                  have hv := hid (hK (.pointer (some ⟨b, o + p * 5, none⟩)) w (PrV.is rfl rfl) (Below.refl _ _))
                  go_simp
                  refine kq hv.out ?_
                  rfl
                · intro ac w hR hd hk K hK
                  have e34 : ac.tmps[34]?.getD undef = (.pointer (some ⟨b, o + p * 5, none⟩) : Value) := slot ((hd 12 _ 34 rfl rfl rfl).val rfl)
                  have z0 := stay hR y0
                  refine yes (want_g rfl rfl ((hd 7 _ 29 rfl rfl rfl).val rfl)) ?_
                  have hv := hid (hK (.string px) w (PrV.is rfl rfl) (Below.refl _ _))
                  go_simp
                  refine kq hv.out ?_
                  rfl
                · intro ac w hR hd hk K hK
                  have e6 : ac.tmps[6]?.getD undef = (.pointer (some ⟨g6, 0, none⟩) : Value) := slot (get_keep (hk 6 (no_dst (by kernel_rfl))) rfl)
                  refine yes (want_g rfl rfl ((hd 7 _ 29 rfl rfl rfl).val rfl)) ?_
                  have hv := hid (hK (.pointer (some ⟨g6, 0, none⟩)) w (PrV.is rfl rfl) (Below.refl _ _))
                  go_simp
                  refine kq hv.out ?_
                  rfl
                · intro ac w hR hd hk K hK
                  have e36 : ac.tmps[36]?.getD undef = (.pointer (some ⟨g6, 0, none⟩) : Value) := slot ((hd 14 _ 36 rfl rfl rfl).val rfl)
                  have z0 := stay hR c10
                  refine yes (want_g rfl rfl ((hd 7 _ 29 rfl rfl rfl).val rfl)) ?_
                  have hv := hid (hK (.string x1) w (PrV.is rfl rfl) (Below.refl _ _))
                  go_simp
                  refine kq hv.out ?_
                  rfl
                · intro ac w hR hd hk K hK
                  have e35 : ac.tmps[35]?.getD undef = (.string px : Value) := slot ((hd 13 _ 35 rfl rfl rfl).val rfl)
                  have e37 : ac.tmps[37]?.getD undef = (.string x1 : Value) := slot ((hd 15 _ 37 rfl rfl rfl).val rfl)
                  have hj9 := hless
                  refine yes (want_g rfl rfl ((hd 7 _ 29 rfl rfl rfl).val rfl)) ?_
                  have hv := hid (hK (.bool true) w (PrV.is rfl rfl) (Below.refl _ _))
                  go_simp
                  refine kq hv.out ?_
                  rfl
                · exact fun ac w hR hd hk K hK => yes (want_g rfl rfl ((hd 4 _ 26 rfl rfl rfl).val rfl)) (wp_pick _ _ _ rfl true _ ((hd 7 _ 29 rfl rfl rfl).val rfl) ((hd 16 _ 38 rfl rfl rfl).val rfl) (hK _ w (PrV.is rfl rfl) (Below.refl _ _)))
                · exact fun ac w hR hd hk K hK => yes (want_n rfl) (wp_pick _ _ _ rfl false _ ((hd 4 _ 26 rfl rfl rfl).val rfl) ((hd 17 _ 39 rfl rfl rfl).val rfl) (hK _ w (PrV.is rfl rfl) (Below.refl _ _)))
              · intro a w8 hdf hsz hkp hval hRw
                obtain ⟨f, hf⟩ : ∃ f, f = fun d => a.tmps.getD d undef := ⟨_, rfl⟩
                have h40 : f 40 = .bool true := by rw [hf]; exact (hval 18 _ 40 rfl rfl).val rfl
                have hfa := act_filled hdf hsz hkp
                rw [← hf] at hfa
                rw [hfa]
                clear hdf hsz hkp hval hfa hf
                clear a
                simp only [fillAll, List.set_cons_zero, List.set_cons_succ, h40]
                clear h40
                go_wp2
                go_ret
                exact ⟨ret_bool hf.out.symm, bnext D2 hRw⟩
      · have hje : j = k := by omega
        subst hje
        have hf := hid (show RR = !clB (M.map vw) by rw [← hRR.out]; exact rl_ok rfl (by rw [hvn.out]; omega) (by rw [hvn.out]; exact hok.out))
        have kX2 := kX _ D
        generalize clB (M.map vw) = X at *
        go_wp2_with fail
        refine kX2.mono ?_
        rintro e w3 ⟨rfl, hb3⟩
        go_wp2
        go_ret
        exact ⟨ret_bool hf.out.symm, bnext D hb3⟩

end Go.Proofs.Ytjfgpepecjkdnaa
