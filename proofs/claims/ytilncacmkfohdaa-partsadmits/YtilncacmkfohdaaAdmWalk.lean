/- PartsAdmits: who may use something, so may all below. -/
import Derived.Test.YtilncacmkfohdaaAwake
import Derived.Test.YtilncacmkfohdaaHoldP
import Derived.Test.YtilncacmkfohdaaVals
namespace Go.Proofs.Ytilncacmkfohdaa
open Go.RowKit
set_option linter.unusedVariables false

theorem any_is {P T : List ByteArray} : anyB P T = true ↔ ∃ x, x ∈ T ∧ x ∈ P := by
  unfold anyB
  rw [List.any_eq_true]
  constructor
  · rintro ⟨x, h1, h2⟩; exact ⟨x, h1, has_is.1 h2⟩
  · rintro ⟨x, h1, h2⟩; exact ⟨x, h1, has_is.2 h2⟩
theorem adm_is {A : List Acc} {T : List ByteArray} {n : ByteArray} (h : errP A n = 0) : admB A T n = true ↔ T = [] ∨ ∃ x, x ∈ T ∧ x ∈ pathP A n := by
  unfold admB
  rw [decide_eq_true h, Bool.true_and, Bool.or_eq_true, any_is, decide_eq_true_eq, List.length_eq_zero_iff]
theorem adm_none {A : List Acc} {n : ByteArray} (h : errP A n = 0) : admB A [] n = true := (adm_is h).2 (.inl rfl)
theorem path_self {A : List Acc} {n : ByteArray} (h : errP A n = 0) : n ∈ pathP A n := by
  obtain ⟨hR, i, hi⟩ := err_ok h
  rw [path_step hR hi]; exact List.mem_cons_self
theorem adm_self {A : List Acc} {n : ByteArray} (h : errP A n = 0) : admB A [n] n = true := (adm_is h).2 (.inr ⟨n, List.mem_singleton.2 rfl, path_self h⟩)
theorem adm_more {A : List Acc} {T : List ByteArray} {n : ByteArray} (m : ByteArray) (h : errP A n = 0) (ht : 0 < T.length) (ha : admB A T n = true) : admB A (m :: T) n = true := by
  rw [adm_is h] at ha ⊢
  rcases ha with rfl | ⟨x, h1, h2⟩
  · simp at ht
  · exact .inr ⟨x, List.mem_cons_of_mem _ h1, h2⟩
theorem below_err {A : List Acc} {n m : ByteArray} (hR : rightB A = true) (hm : m ∈ belowP A n) : errP A m = 0 := by
  have h1 := below_is.1 hm
  cases hf : fi A m with
  | none => rw [path_no hf] at h1; cases h1
  | some i => exact err_of hR hf
theorem adm_down {A : List Acc} {T : List ByteArray} {n m : ByteArray} (hR : rightB A = true) (h : errP A n = 0) (hm : m ∈ belowP A n) (ha : admB A T n = true) : admB A T m = true := by
  rw [adm_is h] at ha
  rw [adm_is (below_err hR hm)]
  rcases ha with h0 | ⟨x, h1, h2⟩
  · exact .inl h0
  · obtain ⟨_, i, hi⟩ := err_ok (below_err hR hm)
    exact .inr ⟨x, h1, path_trans hR i m n x hi (below_is.1 hm) h2⟩
theorem right_err {A : List Acc} (hR : rightB A = true) {i : Nat} (hi : i < A.length) : errP A (accAt A i).1 = 0 := err_of hR (right_name hR hi)

def Rad (mo : ByteArray) (T : List ByteArray) (tk : Nat) (q : Nat) (v : Value) (w : World) : Prop :=
  match q with
  | 13 => ∃ g, v = .slice (some ⟨g, 0, none⟩) 1 1 ∧ CAt w (some ⟨g, 0, none⟩) [.string mo]
  | _ => ∃ a c, v = .slice a (1 + tk) c ∧ TAt w a (mo :: T)
theorem Rad.mono (mo : ByteArray) (T : List ByteArray) (tk : Nat) (q : Nat) (v : Value) (w w' : World) (h : Rad mo T tk q v w) (hb : Below w.heap.size w w') : Rad mo T tk q v w' := by
  unfold Rad at *
  split at h
  · obtain ⟨g, e, hc⟩ := h; exact ⟨g, e, hc.below hb⟩
  · obtain ⟨a, c, e, hc⟩ := h; exact ⟨a, c, e, hc.below hb⟩

/-- append onto a row of one text that has no room. -/
theorem wp_grow {Q : Exit → Act → World → Prop} {a : Act} {w : World} {K : Act → World → Prop} {o : Oper} (s x : Operand) (ho : o.op = .call { callee := .builtin .append, args := #[s, x], argTypes := #[32, 32] })
    {mo : ByteArray} {T : List ByteArray} {ta : Option Addr} {tk tc : Nat} (g : Nat) (hs : a.eval s = .slice (some ⟨g, 0, none⟩) 1 1) (hg : CAt w (some ⟨g, 0, none⟩) [.string mo]) (hx : a.eval x = .slice ta tk tc) (hT : T.length = tk) (h0 : 0 < tk) (h1 : tk ≤ 60) (hat : TAt w ta T)
    (hK : ∀ a' c' w', TAt w' a' (mo :: T) → Below w.heap.size w w' → K (a.put o.dst (.slice a' (1 + tk) c')) w') : Oper.wp Try.prog o a w K Q := by
  obtain ⟨i0, hi0, hz0, hz1, hz2⟩ := info_parts info9
  obtain ⟨b, o', rfl⟩ := hat.place (by omega)
  have hfit : Builtin.nextslicecap (1 + tk) 1 * i0.bytes ≤ 281474976710656 := by
    rw [hz2]
    have : ∀ t : Fin 61, Builtin.nextslicecap (1 + t.val) 1 * 16 ≤ 281474976710656 := by decide +kernel
    exact this ⟨tk, by omega⟩
  have hrun := run_append_grow (P := Try.prog) (w := w) 32 o.type 9 i0 _ Try.underlying32 hi0 hz0 ⟨g, 0, none⟩ 1 1 [.string mo] (by rw [hz1]; rfl) hg.src ⟨b, o', none⟩ tk tc (T.map S) (by rw [hz1, List.length_map, hT]; omega) (CAt.src hat) (by omega) (by omega) hfit
  unfold Oper.wp
  simp only [execOp, ho, resolve, invoke, builtin]
  simp [hs, hx, hrun, Result.andThen]
  refine hK _ _ _ ?_ ?_
  · intro _
    refine ⟨w.heap.size, 0, rfl, fun i hi => ?_⟩
    rw [Nat.zero_add]
    have hi' : i < T.length + 1 := by simpa using hi
    refine row_cell (heap_alloc_new _ _) i _ ?_
    rw [Array.getElem?_append_left (by simp; omega)]
    show ((mo :: T).map S).toArray[i]? = _
    rw [List.getElem?_toArray, List.getElem?_eq_getElem hi]
  · exact bnext (drew_below w) (below_lit _ _)

def pvaA (b o k c : Nat) (ta : Option Addr) (tk tc g : Nat) (mo X0 : ByteArray) : List Value := [.slice ta tk tc, .int .i64 (tk : Int), .bool false, .bool false, undef, undef, undef, undef, undef, .bool false, .bool false, undef, undef, undef, undef, undef, undef, undef, undef, undef, .bool false]
def pvaB (b o k c : Nat) (ta : Option Addr) (tk tc g : Nat) (mo X0 : ByteArray) : List Value := [.slice ta tk tc, .int .i64 (tk : Int), .bool true, .bool true, .slice (some ⟨b, o, none⟩) k c, .slice ta tk tc, .pointer (some ⟨g, 0, none⟩), .string X0, .bool false, .bool false, .bool false, undef, undef, undef, undef, undef, undef, undef, undef, undef, .bool false]
def pvaC (b o k c : Nat) (ta : Option Addr) (tk tc g : Nat) (mo X0 : ByteArray) : List Value := [.slice ta tk tc, .int .i64 (tk : Int), .bool true, .bool true, .slice (some ⟨b, o, none⟩) k c, .slice ta tk tc, .pointer (some ⟨g, 0, none⟩), .string X0, .bool true, .bool true, .bool true, .slice (some ⟨b, o, none⟩) k c, .string mo, undef, .slice ta tk tc, undef, .pointer (some ⟨g, 0, none⟩), .string X0, .bool true, .bool false, .bool false]

set_option maxRecDepth 100000 in
set_option maxHeartbeats 8000000 in
theorem adm_law (a : Option Addr) (k c : Nat) (A : List Acc) (ta : Option Addr) (tk tc : Nat) (T : List ByteArray) (mo : ByteArray) (w : World) (hA : A.length = k) (hl : k ≤ 4611686018427387904) (hkc : k ≤ c) (hat : AAt w a A) (hT : T.length = tk) (htl0 : tk ≤ 4611686018427387904) (htat : TAt w ta T) :
    Calls Try.prog 4 #[.slice a k c, .slice ta tk tc, .string mo] w fun e w' => e = .returned (.bool true) ∧ Below w.heap.size w w' := by
  by_cases h60 : 60 < k
  · have d1 : (60 : Int) < (k : Int) := by omega
    replace hA := hid hA
    replace hat := hid hat
    replace hT := hid hT
    replace htat := hid htat
    go_enter Try.func4, Try.ntmps4
    go_wp2_with fail
    refine (awake_any _).mono ?_
    rintro e wz ⟨rfl, hbz⟩
    go_wp2
    go_ret
    exact ⟨rfl, hbz⟩
  have d1 : ¬ (60 : Int) < (k : Int) := by omega
  by_cases h61 : 60 < tk
  · have d2 : (60 : Int) < (tk : Int) := by omega
    replace hA := hid hA
    replace hat := hid hat
    replace hT := hid hT
    replace htat := hid htat
    go_enter Try.func4, Try.ntmps4
    go_wp2_with fail
    refine (awake_any _).mono ?_
    rintro e wz ⟨rfl, hbz⟩
    go_wp2
    go_ret
    exact ⟨rfl, hbz⟩
  have d2 : ¬ (60 : Int) < (tk : Int) := by omega
  have kR := right_any a k c A w hA hkc hat
  cases hR : rightB A with
  | false =>
    rw [hR] at kR
    replace hA := hid hA
    replace hat := hid hat
    replace hT := hid hT
    replace htat := hid htat
    replace hR := hid hR
    go_enter Try.func4, Try.ntmps4
    go_wp2_with fail
    refine kR.mono ?_
    rintro e w1 ⟨rfl, hb1⟩
    go_wp2_with fail
    refine (awake_any _).mono ?_
    rintro e wz ⟨rfl, hbz⟩
    go_wp2
    go_ret
    exact ⟨rfl, bnext hb1 hbz⟩
  | true =>
    rw [hR] at kR
    have hk1 : 1 ≤ k := by rw [← hA]; exact (right_is.1 hR).1
    obtain ⟨b, o, e⟩ := hat.place (by omega)
    subst e
    replace hA := hid hA
    replace hat := hid hat
    replace hT := hid hT
    replace htat := hid htat
    replace hR := hid hR
    go_enter Try.func4, Try.ntmps4
    go_wp2_with fail
    refine kR.mono ?_
    rintro e w1 ⟨rfl, hb1⟩
    go_wp2_with fail
    go_loopw [29] (fun i wr => ∃ j : Nat, j ≤ k ∧ i = .int .i64 (j : Int) ∧ Below w.heap.size w wr) (fun i _ => k - (intOf i).toNat)
    case atStart => exact ⟨0, Nat.zero_le _, rfl, hb1⟩
    case round =>
      obtain ⟨j, hj, rfl, hb⟩ := hrel
      by_cases hlt : j < k
      · have hjA : j < A.length := by rw [hA.out]; exact hlt
        obtain ⟨x0, x1, x2⟩ := (hat.out.below hb).one hjA
        have hE := hid (right_err hR.out hjA)
        generalize accAt A j = X at *
        obtain ⟨X0, X1, X2⟩ := X
        dsimp only at *
        obtain ⟨W0, hW0⟩ : ∃ W0, W0 = wr.alloc (.cells #[.string X0, .string X1, .int .i64 X2] 45) := ⟨_, rfl⟩
        have b0 : Below wr.heap.size wr W0 := by rw [hW0]; exact below_lit _ _
        have c8 : W0.cell? ⟨wr.heap.size, 0, none⟩ = some (.string X0) := by rw [hW0]; exact lit_cell _ _ _ _ _ rfl
        have B0 := bnext hb b0
        have kB := below_any (some ⟨b, o, none⟩) k c A X0 W0 hA.out hl hkc (hat.out.below B0)
        rw [if_pos hE.out, hE.out] at kB
        have kA := hid (fun w' (h : Below w.heap.size w w') => admits_any (some ⟨b, o, none⟩) k c A ta tk tc T X0 w' hA.out hl hkc (hat.out.below h) hT.out htl0 (htat.out.below h))
        have kA1 := hid (fun w' (h : Below w.heap.size w w') => admits_any (some ⟨b, o, none⟩) k c A none 0 0 [] X0 w' hA.out hl hkc (hat.out.below h) rfl (by omega) (TAt.nil _ _))
        have kA2 := hid (fun (g : Nat) w' (h : Below w.heap.size w w') (hc : TAt w' (some ⟨g, 0, none⟩) [X0]) => admits_any (some ⟨b, o, none⟩) k c A (some ⟨g, 0, none⟩) 1 1 [X0] X0 w' hA.out hl hkc (hat.out.below h) rfl (by omega) hc)
        have kA3 := hid (fun (Y : ByteArray) w' (h : Below w.heap.size w w') => admits_any (some ⟨b, o, none⟩) k c A ta tk tc T Y w' hA.out hl hkc (hat.out.below h) hT.out htl0 (htat.out.below h))
        rw [adm_none hE.out] at kA1
        rw [adm_self hE.out] at kA2
        replace hW0 := hid hW0
        go_wp2_with fail
        rw [← hW0.out]
        refine kB.mono ?_
        rintro e w2 ⟨ra, rc, rfl, hrc, hown, hb2⟩
        generalize wr.heap.size = g at *
        have B2 := bnext B0 hb2
        replace c8 := stay hb2 c8
        have hbl : (belowP A X0).length ≤ 60 := by
          rw [← belTo_all]
          have h1 := belTo_len A X0 A.length
          have h2 := hA.out
          omega
        have hlt2 := World.block_lt_of_cell? w2 _ c8
        have hbT := hid (hown.tat)
        have hmem : Hid (∀ Y ∈ belowP A X0, admB A T X0 = true → admB A T Y = true) := hid (fun Y hY ha => adm_down hR.out hE.out hY ha)
        clear hown
        generalize belowP A X0 = BL at *
        generalize hbn : BL.length = bn at *
        replace hbn := hid hbn
        go_wp2_with fail
        refine (kA1.out _ B2).mono ?_
        rintro e w3 ⟨rfl, hb3⟩
        have B3 := bnext B2 hb3
        replace c8 := stay hb3 c8
        replace hbT := hid (hbT.out.below hb3)
        have hlt3 := World.block_lt_of_cell? w3 _ c8
        clear hlt2
        have bl4 := below_lit w3 (.cells #[.string X0] 9)
        have kA2b := kA2.out w3.heap.size _ (bnext B3 bl4) (cat_lit w3 9 [.string X0] _ rfl)
        go_wp2_with fail
        refine kA2b.mono ?_
        rintro e w4 ⟨rfl, hb4⟩
        have bl4' := bnext bl4 hb4
        have B4 := bnext B3 bl4'
        replace c8 := stay bl4' c8
        replace hbT := hid (hbT.out.below bl4')
        have hlt4 := World.block_lt_of_cell? w4 _ c8
        clear hlt3 kA1 kA2 kA2b bl4 bl4' hb4 hb3 hb2 B2 B3 kB hb1 kR
        go_wp2_with fail
        go_loopw [61] (fun i wr => ∃ q : Nat, q ≤ bn ∧ i = .int .i64 (q : Int) ∧ Below w4.heap.size w4 wr) (fun i _ => bn - (intOf i).toNat)
        case atStart => exact ⟨0, Nat.zero_le _, rfl, Below.refl _ _⟩
        case round =>
          obtain ⟨q, hq, rfl, hbq⟩ := hrel
          have c8q := stay hbq c8
          have hltq := World.block_lt_of_cell? _ _ c8q
          have Bq := bnext B4 hbq
          by_cases hqb : q < bn
          · have hqB : q < BL.length := by rw [hbn.out]; exact hqb
            obtain ⟨tb, to', e⟩ := hbT.out.place (by omega)
            subst e
            have y0 := (hbT.out.below hbq).one hqB
            have hY := hmem.out (txAt BL q) (by rw [← txAt_eq hqB]; exact List.getElem_mem hqB)
            generalize txAt BL q = Y at *
            cases hAd : admB A T X0 with
            | false =>
              rw [hAd] at kA
              replace hAd := hid hAd
              replace hY := hid hY
              go_wp2_with fail
              refine (kA.out _ Bq).mono ?_
              rintro e w5 ⟨rfl, hb5⟩
              go_wp2_with fail
              go_roundw
              case rel => exact ⟨q + 1, by omega, by go_num, bnext hbq hb5⟩
              case measure => simp [intOf]; omega
            | true =>
              rw [hAd] at kA
              have kY := kA3.out Y
              rw [hY hAd] at kY
              replace hAd := hid hAd
              clear hY
              go_wp2_with fail
              refine (kA.out _ Bq).mono ?_
              rintro e w5 ⟨rfl, hb5⟩
              go_wp2_with fail
              refine (kY _ (bnext Bq hb5)).mono ?_
              rintro e w6 ⟨rfl, hb6⟩
              go_wp2_with fail
              go_roundw
              case rel => exact ⟨q + 1, by omega, by go_num, bnext (bnext hbq hb5) hb6⟩
              case measure => simp [intOf]; omega
          · have hqe : q = bn := by omega
            subst hqe
            have DD := hid Bq
            have kA' := hid (fun w' (h : Below wr.heap.size wr w') => kA.out w' (bnext DD.out h))
            clear kA
            have kA := kA'
            clear kA'
            have kM := hid (fun (a9 : Option Addr) (c9 : Nat) w' (h : Below wr.heap.size wr w') (hc : TAt w' a9 (mo :: T)) => admits_any (some ⟨b, o, none⟩) k c A a9 (1 + tk) c9 (mo :: T) X0 w' hA.out hl hkc (hat.out.below (bnext DD.out h)) (by rw [List.length_cons, hT.out]; omega) (by omega) hc)
            clear c8 hlt4
            have c8 := c8q
            clear c8q
            have htl : tk ≤ 60 := by omega
            by_cases htk : 0 < tk
            · cases hAd : admB A T X0 with
              | false =>
                rw [hAd] at kA
                replace hAd := hid hAd
                go_wp2_with fail
                refine wp_region_drawn (Rel := fun w w' => Below w.heap.size w w') (Pr := PrV (pvaB b o k c ta tk tc g mo X0) [] (fun _ _ _ => True)) (by kernel_rfl) (by kernel_rfl) (drew_below _) bel_tr (PrV.mono (fun _ _ _ _ _ _ => trivial)) ?_ ?_
                · refine ⟨?_, ?_, ?_, ?_, ?_, ?_, ?_, ?_, ?_, ?_, ?_, ?_, ?_, ?_, ?_, ?_, ?_, ?_, ?_, ?_, ?_, trivial⟩
                  · exact fun ac w hR hd hk K hK => yes (want_n rfl) (wp_mv _ rfl _ (get_keep (hk 1 (no_dst (by kernel_rfl))) rfl) (hK _ w (PrV.is rfl rfl) (Below.refl _ _)))
                  · intro ac w hR hd hk K hK
                    have e78 : ac.tmps[78]?.getD undef = (.slice ta tk tc : Value) := slot ((hd 0 _ 78 rfl rfl rfl).val rfl)
                    refine yes (want_n rfl) ?_
                    have hv := hid (hK (.int .i64 (tk : Int)) w (PrV.is rfl rfl) (Below.refl _ _))
                    go_simp
                    refine kq hv.out ?_
                    rfl
                  · intro ac w hR hd hk K hK
                    have e79 : ac.tmps[79]?.getD undef = (.int .i64 (tk : Int) : Value) := slot ((hd 1 _ 79 rfl rfl rfl).val rfl)
                    have htk2 := htk
                    refine yes (want_n rfl) ?_
                    have hv := hid (hK (.bool true) w (PrV.is rfl rfl) (Below.refl _ _))
                    go_simp
                    refine kq hv.out ?_
                    simp
                  · exact fun ac w hR hd hk K hK => yes (want_n rfl) (wp_mv _ rfl _ ((hd 2 _ 80 rfl rfl rfl).val rfl) (hK _ w (PrV.is rfl rfl) (Below.refl _ _)))
                  · exact fun ac w hR hd hk K hK => yes (want_g rfl rfl ((hd 3 _ 81 rfl rfl rfl).val rfl)) (wp_mv _ rfl _ (get_keep (hk 0 (no_dst (by kernel_rfl))) rfl) (hK _ w (PrV.is rfl rfl) (Below.refl _ _)))
                  · exact fun ac w hR hd hk K hK => yes (want_g rfl rfl ((hd 3 _ 81 rfl rfl rfl).val rfl)) (wp_mv _ rfl _ (get_keep (hk 1 (no_dst (by kernel_rfl))) rfl) (hK _ w (PrV.is rfl rfl) (Below.refl _ _)))
                  · intro ac w hR hd hk K hK
                    have e8 : ac.tmps[8]?.getD undef = (.pointer (some ⟨g, 0, none⟩) : Value) := slot (get_keep (hk 8 (no_dst (by kernel_rfl))) rfl)
                    refine yes (want_g rfl rfl ((hd 3 _ 81 rfl rfl rfl).val rfl)) ?_
                    have hv := hid (hK (.pointer (some ⟨g, 0, none⟩)) w (PrV.is rfl rfl) (Below.refl _ _))
                    go_simp
                    refine kq hv.out ?_
                    rfl
                  · intro ac w hR hd hk K hK
                    have e84 : ac.tmps[84]?.getD undef = (.pointer (some ⟨g, 0, none⟩) : Value) := slot ((hd 6 _ 84 rfl rfl rfl).val rfl)
                    have x0 := stay hR c8
                    refine yes (want_g rfl rfl ((hd 3 _ 81 rfl rfl rfl).val rfl)) ?_
                    have hv := hid (hK (.string X0) w (PrV.is rfl rfl) (Below.refl _ _))
                    go_simp
                    refine kq hv.out ?_
                    rfl
                  · exact fun ac w hR hd hk K hK => yes (want_g rfl rfl ((hd 3 _ 81 rfl rfl rfl).val rfl)) (wp_callv 14 _ _ rfl _ Try.func14 rfl rfl _ (args3 ((hd 4 _ 82 rfl rfl rfl).val rfl) ((hd 5 _ 83 rfl rfl rfl).val rfl) ((hd 7 _ 85 rfl rfl rfl).val rfl)) (kA.out w hR) (by rintro e w' ⟨rfl, hb⟩; exact ⟨_, rfl, hK _ w' (PrV.is rfl rfl) (hb)⟩))
                  · exact fun ac w hR hd hk K hK => yes (want_n rfl) (wp_pick _ _ _ rfl true _ ((hd 3 _ 81 rfl rfl rfl).val rfl) ((hd 8 _ 86 rfl rfl rfl).val rfl) (hK _ w (PrV.is rfl rfl) (Below.refl _ _)))
                  · exact fun ac w hR hd hk K hK => yes (want_n rfl) (wp_mv _ rfl _ ((hd 9 _ 87 rfl rfl rfl).val rfl) (hK _ w (PrV.is rfl rfl) (Below.refl _ _)))
                  · exact fun ac w hR hd hk K hK => nope (want_f rfl rfl ((hd 10 _ 88 rfl rfl rfl).val rfl) (by decide)) (hK _ w (PrV.is rfl rfl) (Below.refl _ _))
                  · exact fun ac w hR hd hk K hK => nope (want_f rfl rfl ((hd 10 _ 88 rfl rfl rfl).val rfl) (by decide)) (hK _ w (PrV.is rfl rfl) (Below.refl _ _))
                  · exact fun ac w hR hd hk K hK => nope (want_f rfl rfl ((hd 10 _ 88 rfl rfl rfl).val rfl) (by decide)) (hK _ w (PrV.is rfl rfl) (Below.refl _ _))
                  · exact fun ac w hR hd hk K hK => nope (want_f rfl rfl ((hd 10 _ 88 rfl rfl rfl).val rfl) (by decide)) (hK _ w (PrV.is rfl rfl) (Below.refl _ _))
                  · exact fun ac w hR hd hk K hK => nope (want_f rfl rfl ((hd 10 _ 88 rfl rfl rfl).val rfl) (by decide)) (hK _ w (PrV.is rfl rfl) (Below.refl _ _))
                  · exact fun ac w hR hd hk K hK => nope (want_f rfl rfl ((hd 10 _ 88 rfl rfl rfl).val rfl) (by decide)) (hK _ w (PrV.is rfl rfl) (Below.refl _ _))
                  · exact fun ac w hR hd hk K hK => nope (want_f rfl rfl ((hd 10 _ 88 rfl rfl rfl).val rfl) (by decide)) (hK _ w (PrV.is rfl rfl) (Below.refl _ _))
                  · exact fun ac w hR hd hk K hK => nope (want_f rfl rfl ((hd 10 _ 88 rfl rfl rfl).val rfl) (by decide)) (hK _ w (PrV.is rfl rfl) (Below.refl _ _))
                  · exact fun ac w hR hd hk K hK => nope (want_f rfl rfl ((hd 10 _ 88 rfl rfl rfl).val rfl) (by decide)) (hK _ w (PrV.is rfl rfl) (Below.refl _ _))
                  · exact fun ac w hR hd hk K hK => yes (want_n rfl) (wp_pick _ _ _ rfl false _ ((hd 10 _ 88 rfl rfl rfl).val rfl) rfl (hK _ w (PrV.is rfl rfl) (Below.refl _ _)))
                · intro a w8 hdf hsz hkp hval hRw
                  obtain ⟨f, hf⟩ : ∃ f, f = fun d => a.tmps.getD d undef := ⟨_, rfl⟩
                  have h98 : f 98 = .bool false := by rw [hf]; exact (hval 20 _ 98 rfl rfl).val rfl
                  have hfa := act_filled hdf hsz hkp
                  rw [← hf] at hfa
                  rw [hfa]
                  clear hdf hsz hkp hval hfa hf
                  clear a
                  simp only [fillAll, List.set_cons_zero, List.set_cons_succ, h98]
                  clear h98
                  go_wp2_with fail
                  go_roundw
                  case rel => exact ⟨j + 1, by omega, by go_num, bnext DD.out hRw⟩
                  case measure => simp [intOf]; omega
              | true =>
                rw [hAd] at kA
                have hmo := adm_more mo hE.out (by rw [hT.out]; exact htk) hAd
                rw [hmo] at kM
                replace hmo := hid hmo
                replace hAd := hid hAd
                go_wp2_with fail
                refine wp_region_drawn (Rel := fun w w' => Below w.heap.size w w') (Pr := PrV (pvaC b o k c ta tk tc g mo X0) [13, 15] (Rad mo T tk)) (by kernel_rfl) (by kernel_rfl) (drew_below _) bel_tr (PrV.mono (Rad.mono mo T tk)) ?_ ?_
                · refine ⟨?_, ?_, ?_, ?_, ?_, ?_, ?_, ?_, ?_, ?_, ?_, ?_, ?_, ?_, ?_, ?_, ?_, ?_, ?_, ?_, ?_, trivial⟩
                  · exact fun ac w hR hd hk K hK => yes (want_n rfl) (wp_mv _ rfl _ (get_keep (hk 1 (no_dst (by kernel_rfl))) rfl) (hK _ w (PrV.is rfl rfl) (Below.refl _ _)))
                  · intro ac w hR hd hk K hK
                    have e78 : ac.tmps[78]?.getD undef = (.slice ta tk tc : Value) := slot ((hd 0 _ 78 rfl rfl rfl).val rfl)
                    refine yes (want_n rfl) ?_
                    have hv := hid (hK (.int .i64 (tk : Int)) w (PrV.is rfl rfl) (Below.refl _ _))
                    go_simp
                    refine kq hv.out ?_
                    rfl
                  · intro ac w hR hd hk K hK
                    have e79 : ac.tmps[79]?.getD undef = (.int .i64 (tk : Int) : Value) := slot ((hd 1 _ 79 rfl rfl rfl).val rfl)
                    have htk2 := htk
                    refine yes (want_n rfl) ?_
                    have hv := hid (hK (.bool true) w (PrV.is rfl rfl) (Below.refl _ _))
                    go_simp
                    refine kq hv.out ?_
                    simp
                  · exact fun ac w hR hd hk K hK => yes (want_n rfl) (wp_mv _ rfl _ ((hd 2 _ 80 rfl rfl rfl).val rfl) (hK _ w (PrV.is rfl rfl) (Below.refl _ _)))
                  · exact fun ac w hR hd hk K hK => yes (want_g rfl rfl ((hd 3 _ 81 rfl rfl rfl).val rfl)) (wp_mv _ rfl _ (get_keep (hk 0 (no_dst (by kernel_rfl))) rfl) (hK _ w (PrV.is rfl rfl) (Below.refl _ _)))
                  · exact fun ac w hR hd hk K hK => yes (want_g rfl rfl ((hd 3 _ 81 rfl rfl rfl).val rfl)) (wp_mv _ rfl _ (get_keep (hk 1 (no_dst (by kernel_rfl))) rfl) (hK _ w (PrV.is rfl rfl) (Below.refl _ _)))
                  · intro ac w hR hd hk K hK
                    have e8 : ac.tmps[8]?.getD undef = (.pointer (some ⟨g, 0, none⟩) : Value) := slot (get_keep (hk 8 (no_dst (by kernel_rfl))) rfl)
                    refine yes (want_g rfl rfl ((hd 3 _ 81 rfl rfl rfl).val rfl)) ?_
                    have hv := hid (hK (.pointer (some ⟨g, 0, none⟩)) w (PrV.is rfl rfl) (Below.refl _ _))
                    go_simp
                    refine kq hv.out ?_
                    rfl
                  · intro ac w hR hd hk K hK
                    have e84 : ac.tmps[84]?.getD undef = (.pointer (some ⟨g, 0, none⟩) : Value) := slot ((hd 6 _ 84 rfl rfl rfl).val rfl)
                    have x0 := stay hR c8
                    refine yes (want_g rfl rfl ((hd 3 _ 81 rfl rfl rfl).val rfl)) ?_
                    have hv := hid (hK (.string X0) w (PrV.is rfl rfl) (Below.refl _ _))
                    go_simp
                    refine kq hv.out ?_
                    rfl
                  · exact fun ac w hR hd hk K hK => yes (want_g rfl rfl ((hd 3 _ 81 rfl rfl rfl).val rfl)) (wp_callv 14 _ _ rfl _ Try.func14 rfl rfl _ (args3 ((hd 4 _ 82 rfl rfl rfl).val rfl) ((hd 5 _ 83 rfl rfl rfl).val rfl) ((hd 7 _ 85 rfl rfl rfl).val rfl)) (kA.out w hR) (by rintro e w' ⟨rfl, hb⟩; exact ⟨_, rfl, hK _ w' (PrV.is rfl rfl) (hb)⟩))
                  · exact fun ac w hR hd hk K hK => yes (want_n rfl) (wp_pick _ _ _ rfl true _ ((hd 3 _ 81 rfl rfl rfl).val rfl) ((hd 8 _ 86 rfl rfl rfl).val rfl) (hK _ w (PrV.is rfl rfl) (Below.refl _ _)))
                  · exact fun ac w hR hd hk K hK => yes (want_n rfl) (wp_mv _ rfl _ ((hd 9 _ 87 rfl rfl rfl).val rfl) (hK _ w (PrV.is rfl rfl) (Below.refl _ _)))
                  · exact fun ac w hR hd hk K hK => yes (want_g rfl rfl ((hd 10 _ 88 rfl rfl rfl).val rfl)) (wp_mv _ rfl _ (get_keep (hk 0 (no_dst (by kernel_rfl))) rfl) (hK _ w (PrV.is rfl rfl) (Below.refl _ _)))
                  · exact fun ac w hR hd hk K hK => yes (want_g rfl rfl ((hd 10 _ 88 rfl rfl rfl).val rfl)) (wp_mv _ rfl _ (get_keep (hk 2 (no_dst (by kernel_rfl))) rfl) (hK _ w (PrV.is rfl rfl) (Below.refl _ _)))
                  · intro ac w hR hd hk K hK
                    have e90 : ac.tmps[90]?.getD undef = (.string mo : Value) := slot ((hd 12 _ 90 rfl rfl rfl).val rfl)
                    refine yes (want_g rfl rfl ((hd 10 _ 88 rfl rfl rfl).val rfl)) ?_
                    go_simp
                    exact hK _ _ (PrV.by rfl ⟨w.heap.size, rfl, cat_lit _ _ [.string mo] _ rfl⟩) (below_lit _ _)
                  · exact fun ac w hR hd hk K hK => yes (want_g rfl rfl ((hd 10 _ 88 rfl rfl rfl).val rfl)) (wp_mv _ rfl _ (get_keep (hk 1 (no_dst (by kernel_rfl))) rfl) (hK _ w (PrV.is rfl rfl) (Below.refl _ _)))
                  · intro ac w hR hd hk K hK
                    obtain ⟨g9, q91, hcat⟩ := (hd 13 _ 91 rfl rfl rfl).out rfl
                    have q92 : ac.tmps.getD 92 undef = (.slice ta tk tc : Value) := ((hd 14 _ 92 rfl rfl rfl).val rfl)
                    refine yes (want_g rfl rfl ((hd 10 _ 88 rfl rfl rfl).val rfl)) ?_
                    refine wp_grow (.tmp 91) (.tmp 92) rfl g9 q91 hcat q92 hT.out htk htl (htat.out.below (bnext DD.out hR)) ?_
                    intro a9 c9 w9 h9 hb9
                    exact hK _ _ (PrV.by rfl ⟨a9, c9, rfl, h9⟩) hb9
                  · intro ac w hR hd hk K hK
                    have e8 : ac.tmps[8]?.getD undef = (.pointer (some ⟨g, 0, none⟩) : Value) := slot (get_keep (hk 8 (no_dst (by kernel_rfl))) rfl)
                    refine yes (want_g rfl rfl ((hd 10 _ 88 rfl rfl rfl).val rfl)) ?_
                    have hv := hid (hK (.pointer (some ⟨g, 0, none⟩)) w (PrV.is rfl rfl) (Below.refl _ _))
                    go_simp
                    refine kq hv.out ?_
                    rfl
                  · intro ac w hR hd hk K hK
                    have e94 : ac.tmps[94]?.getD undef = (.pointer (some ⟨g, 0, none⟩) : Value) := slot ((hd 16 _ 94 rfl rfl rfl).val rfl)
                    have x0 := stay hR c8
                    refine yes (want_g rfl rfl ((hd 10 _ 88 rfl rfl rfl).val rfl)) ?_
                    have hv := hid (hK (.string X0) w (PrV.is rfl rfl) (Below.refl _ _))
                    go_simp
                    refine kq hv.out ?_
                    rfl
                  · intro ac w hR hd hk K hK
                    obtain ⟨a9, c9, q93, h9⟩ := (hd 15 _ 93 rfl rfl rfl).out rfl
                    refine yes (want_g rfl rfl ((hd 10 _ 88 rfl rfl rfl).val rfl)) ?_
                    refine wp_callv 14 _ _ rfl _ Try.func14 rfl rfl _ (args3 ((hd 11 _ 89 rfl rfl rfl).val rfl) q93 ((hd 17 _ 95 rfl rfl rfl).val rfl)) (kM.out a9 c9 w hR h9) ?_
                    rintro e w' ⟨rfl, hb⟩
                    exact ⟨_, rfl, hK _ w' (PrV.is rfl rfl) hb⟩
                  · intro ac w hR hd hk K hK
                    have e96 : ac.tmps[96]?.getD undef = (.bool true : Value) := slot ((hd 18 _ 96 rfl rfl rfl).val rfl)
                    refine yes (want_g rfl rfl ((hd 10 _ 88 rfl rfl rfl).val rfl)) ?_
                    have hv := hid (hK (.bool false) w (PrV.is rfl rfl) (Below.refl _ _))
                    go_simp
                    refine kq hv.out ?_
                    rfl
                  · exact fun ac w hR hd hk K hK => yes (want_n rfl) (wp_pick _ _ _ rfl true _ ((hd 10 _ 88 rfl rfl rfl).val rfl) ((hd 19 _ 97 rfl rfl rfl).val rfl) (hK _ w (PrV.is rfl rfl) (Below.refl _ _)))
                · intro a w8 hdf hsz hkp hval hRw
                  obtain ⟨f, hf⟩ : ∃ f, f = fun d => a.tmps.getD d undef := ⟨_, rfl⟩
                  have h98 : f 98 = .bool false := by rw [hf]; exact (hval 20 _ 98 rfl rfl).val rfl
                  have hfa := act_filled hdf hsz hkp
                  rw [← hf] at hfa
                  rw [hfa]
                  clear hdf hsz hkp hval hfa hf
                  clear a
                  simp only [fillAll, List.set_cons_zero, List.set_cons_succ, h98]
                  clear h98
                  go_wp2_with fail
                  go_roundw
                  case rel => exact ⟨j + 1, by omega, by go_num, bnext DD.out hRw⟩
                  case measure => simp [intOf]; omega
            · have htz : ¬ (0 : Int) < (tk : Int) := by omega
              go_wp2_with fail
              refine wp_region_drawn (Rel := fun w w' => Below w.heap.size w w') (Pr := PrV (pvaA b o k c ta tk tc g mo X0) [] (fun _ _ _ => True)) (by kernel_rfl) (by kernel_rfl) (drew_below _) bel_tr (PrV.mono (fun _ _ _ _ _ _ => trivial)) ?_ ?_
              · refine ⟨?_, ?_, ?_, ?_, ?_, ?_, ?_, ?_, ?_, ?_, ?_, ?_, ?_, ?_, ?_, ?_, ?_, ?_, ?_, ?_, ?_, trivial⟩
                · exact fun ac w hR hd hk K hK => yes (want_n rfl) (wp_mv _ rfl _ (get_keep (hk 1 (no_dst (by kernel_rfl))) rfl) (hK _ w (PrV.is rfl rfl) (Below.refl _ _)))
                · intro ac w hR hd hk K hK
                  have e78 : ac.tmps[78]?.getD undef = (.slice ta tk tc : Value) := slot ((hd 0 _ 78 rfl rfl rfl).val rfl)
                  refine yes (want_n rfl) ?_
                  have hv := hid (hK (.int .i64 (tk : Int)) w (PrV.is rfl rfl) (Below.refl _ _))
                  go_simp
                  refine kq hv.out ?_
                  rfl
                · intro ac w hR hd hk K hK
                  have e79 : ac.tmps[79]?.getD undef = (.int .i64 (tk : Int) : Value) := slot ((hd 1 _ 79 rfl rfl rfl).val rfl)
                  have htk2 := htk
                  refine yes (want_n rfl) ?_
                  have hv := hid (hK (.bool false) w (PrV.is rfl rfl) (Below.refl _ _))
                  go_simp
                  refine kq hv.out ?_
                  simp
                · exact fun ac w hR hd hk K hK => yes (want_n rfl) (wp_mv _ rfl _ ((hd 2 _ 80 rfl rfl rfl).val rfl) (hK _ w (PrV.is rfl rfl) (Below.refl _ _)))
                · exact fun ac w hR hd hk K hK => nope (want_f rfl rfl ((hd 3 _ 81 rfl rfl rfl).val rfl) (by decide)) (hK _ w (PrV.is rfl rfl) (Below.refl _ _))
                · exact fun ac w hR hd hk K hK => nope (want_f rfl rfl ((hd 3 _ 81 rfl rfl rfl).val rfl) (by decide)) (hK _ w (PrV.is rfl rfl) (Below.refl _ _))
                · exact fun ac w hR hd hk K hK => nope (want_f rfl rfl ((hd 3 _ 81 rfl rfl rfl).val rfl) (by decide)) (hK _ w (PrV.is rfl rfl) (Below.refl _ _))
                · exact fun ac w hR hd hk K hK => nope (want_f rfl rfl ((hd 3 _ 81 rfl rfl rfl).val rfl) (by decide)) (hK _ w (PrV.is rfl rfl) (Below.refl _ _))
                · exact fun ac w hR hd hk K hK => nope (want_f rfl rfl ((hd 3 _ 81 rfl rfl rfl).val rfl) (by decide)) (hK _ w (PrV.is rfl rfl) (Below.refl _ _))
                · exact fun ac w hR hd hk K hK => yes (want_n rfl) (wp_pick _ _ _ rfl false _ ((hd 3 _ 81 rfl rfl rfl).val rfl) rfl (hK _ w (PrV.is rfl rfl) (Below.refl _ _)))
                · exact fun ac w hR hd hk K hK => yes (want_n rfl) (wp_mv _ rfl _ ((hd 9 _ 87 rfl rfl rfl).val rfl) (hK _ w (PrV.is rfl rfl) (Below.refl _ _)))
                · exact fun ac w hR hd hk K hK => nope (want_f rfl rfl ((hd 10 _ 88 rfl rfl rfl).val rfl) (by decide)) (hK _ w (PrV.is rfl rfl) (Below.refl _ _))
                · exact fun ac w hR hd hk K hK => nope (want_f rfl rfl ((hd 10 _ 88 rfl rfl rfl).val rfl) (by decide)) (hK _ w (PrV.is rfl rfl) (Below.refl _ _))
                · exact fun ac w hR hd hk K hK => nope (want_f rfl rfl ((hd 10 _ 88 rfl rfl rfl).val rfl) (by decide)) (hK _ w (PrV.is rfl rfl) (Below.refl _ _))
                · exact fun ac w hR hd hk K hK => nope (want_f rfl rfl ((hd 10 _ 88 rfl rfl rfl).val rfl) (by decide)) (hK _ w (PrV.is rfl rfl) (Below.refl _ _))
                · exact fun ac w hR hd hk K hK => nope (want_f rfl rfl ((hd 10 _ 88 rfl rfl rfl).val rfl) (by decide)) (hK _ w (PrV.is rfl rfl) (Below.refl _ _))
                · exact fun ac w hR hd hk K hK => nope (want_f rfl rfl ((hd 10 _ 88 rfl rfl rfl).val rfl) (by decide)) (hK _ w (PrV.is rfl rfl) (Below.refl _ _))
                · exact fun ac w hR hd hk K hK => nope (want_f rfl rfl ((hd 10 _ 88 rfl rfl rfl).val rfl) (by decide)) (hK _ w (PrV.is rfl rfl) (Below.refl _ _))
                · exact fun ac w hR hd hk K hK => nope (want_f rfl rfl ((hd 10 _ 88 rfl rfl rfl).val rfl) (by decide)) (hK _ w (PrV.is rfl rfl) (Below.refl _ _))
                · exact fun ac w hR hd hk K hK => nope (want_f rfl rfl ((hd 10 _ 88 rfl rfl rfl).val rfl) (by decide)) (hK _ w (PrV.is rfl rfl) (Below.refl _ _))
                · exact fun ac w hR hd hk K hK => yes (want_n rfl) (wp_pick _ _ _ rfl false _ ((hd 10 _ 88 rfl rfl rfl).val rfl) rfl (hK _ w (PrV.is rfl rfl) (Below.refl _ _)))
              · intro a w8 hdf hsz hkp hval hRw
                obtain ⟨f, hf⟩ : ∃ f, f = fun d => a.tmps.getD d undef := ⟨_, rfl⟩
                have h98 : f 98 = .bool false := by rw [hf]; exact (hval 20 _ 98 rfl rfl).val rfl
                have hfa := act_filled hdf hsz hkp
                rw [← hf] at hfa
                rw [hfa]
                clear hdf hsz hkp hval hfa hf
                clear a
                simp only [fillAll, List.set_cons_zero, List.set_cons_succ, h98]
                clear h98
                go_wp2_with fail
                go_roundw
                case rel => exact ⟨j + 1, by omega, by go_num, bnext DD.out hRw⟩
                case measure => simp [intOf]; omega
      · have hje : j = k := by omega
        subst hje
        go_wp2_with fail
        refine (awake_any _).mono ?_
        rintro e wz ⟨rfl, hbz⟩
        go_wp2
        go_ret
        exact ⟨rfl, bnext hb hbz⟩

end Go.Proofs.Ytilncacmkfohdaa
