/- PartsCheck: what is let in could start on an empty machine. -/
import Derived.Test.YtilncacmkfohdaaGreatCk
import Derived.Test.YtilncacmkfohdaaGreatAwake
import Derived.Test.YtilncacmkfohdaaGreatBig
import Derived.Test.YtilncacmkfohdaaGreatVals
namespace Go.Proofs.YtilncacmkfohdaaGreat
open Go.RowKit
set_option linter.unusedVariables false

def pvc (g0 g1 rn rc i b0 o pn pc z ON : Nat) (ra : Option Addr) (nn co lm : Int) : List Value := [.slice ra rn rc, .pointer (some ⟨g1, 4, none⟩), .int .i64 nn, .pointer (some ⟨g1, 5, none⟩), .int .i64 co, .pointer (some ⟨g1, 6, none⟩), .int .i64 lm, .pointer (some ⟨g0, 1, none⟩), .slice (some ⟨b0, o, none⟩) pn pc, .int .i64 (i : Int), .pointer (some ⟨b0, o + i * 5, none⟩), .pointer (some ⟨b0, o + i * 5 + 1, none⟩), .int .u32 (z : Int), .agg #[.int .i64 nn, .int .i64 co, .int .i64 lm, .int .i64 0, .int .u32 (z : Int), .slice none 0 0], .tuple #[.int .i64 0, .int .u32 (ON : Int), .int .i64 0], .tuple #[.int .i64 0, .int .u32 (ON : Int), .int .i64 0], .int .i64 0, .int .u32 (ON : Int), .int .i64 0, .int .i64 0, .int .u32 (ON : Int), .int .i64 0]

theorem iat_map {w : World} {a : Option Addr} {Z : List Int} (h : IAt w a Z) : Pf.CAt w a (Z.map Pf.Nd.I) := by
  have : Z.map Pf.Nd.I = Z.flatMap ic := by
    clear h
    induction Z with
    | nil => rfl
    | cons x r ih => rw [List.map_cons, List.flatMap_cons, ih]; rfl
  rw [this]; exact h

set_option maxRecDepth 100000 in
set_option maxHeartbeats 8000000 in
theorem ck_law (ca pa aa qa : Option Addr) (cn cc pn pc ak az qk qc : Nat) (pol : Int) (Z : List Int) (M : List (Prt × List ByteArray)) (A : List Acc) (Q : List Qu) (sp le : Spc) (w : World) (hC : CfR w ca pa aa qa cn pn ak az qk Z M A Q) :
    Calls Tryz.prog 3 #[.agg #[.slice ca cn cc, .slice pa pn pc, .slice aa ak az, .slice qa qk qc, .int .u8 pol], .agg (sc sp).toArray, .agg (sc le).toArray] w fun e w' => e = .returned (.bool true) ∧ Below w.heap.size w w' := by
  obtain ⟨s0, s1, s2, s3, nn, co, lm, da, dn, dc⟩ := sp
  obtain ⟨l0, l1, l2, l3, ln, lc, ll, ea, en, ec⟩ := le
  have kCk := fun (a b c : Int) w' (h : Below w.heap.size w w') => check_any ca pa aa qa cn cc pn pc ak az qk qc pol Z M A Q ⟨s0, s1, s2, s3, a, b, c, da, dn, dc⟩ w' (hC.below h)
  simp only [sc] at kCk ⊢
  obtain ⟨W1, hW1⟩ : ∃ W1, W1 = w.alloc (.cells #[.slice ca cn cc, .slice pa pn pc, .slice aa ak az, .slice qa qk qc, .int .u8 pol] 28) := ⟨_, rfl⟩
  obtain ⟨W2, hW2⟩ : ∃ W2, W2 = W1.alloc (.cells #[.string s0, .string s1, .string s2, .string s3, .int .i64 nn, .int .i64 co, .int .i64 lm, .slice da dn dc] 31) := ⟨_, rfl⟩
  obtain ⟨W0, hW0⟩ : ∃ W0, W0 = W2.alloc (.cells #[.string l0, .string l1, .string l2, .string l3, .int .i64 ln, .int .i64 lc, .int .i64 ll, .slice ea en ec] 31) := ⟨_, rfl⟩
  have b1 : Below w.heap.size w W1 := by rw [hW1]; exact below_lit _ _
  have b2 : Below W1.heap.size W1 W2 := by rw [hW2]; exact below_lit _ _
  have b0 : Below W2.heap.size W2 W0 := by rw [hW0]; exact below_lit _ _
  have hz1 : W1.heap.size = w.heap.size + 1 := by rw [hW1, size_lit]
  have hz2 : W2.heap.size = w.heap.size + 1 + 1 := by rw [hW2, size_lit, hz1]
  have v0 : W0.cell? ⟨w.heap.size, 0, none⟩ = some (.slice ca cn cc) := stay (bnext b2 b0) (by rw [hW1]; exact lit_cell _ _ _ _ _ rfl)
  have v1 : W0.cell? ⟨w.heap.size, 1, none⟩ = some (.slice pa pn pc) := stay (bnext b2 b0) (by rw [hW1]; exact lit_cell _ _ _ _ _ rfl)
  have v2 : W0.cell? ⟨w.heap.size, 2, none⟩ = some (.slice aa ak az) := stay (bnext b2 b0) (by rw [hW1]; exact lit_cell _ _ _ _ _ rfl)
  have v3 : W0.cell? ⟨w.heap.size, 3, none⟩ = some (.slice qa qk qc) := stay (bnext b2 b0) (by rw [hW1]; exact lit_cell _ _ _ _ _ rfl)
  have v4 : W0.cell? ⟨w.heap.size, 4, none⟩ = some (.int .u8 pol) := stay (bnext b2 b0) (by rw [hW1]; exact lit_cell _ _ _ _ _ rfl)
  have u0 : W0.cell? ⟨w.heap.size + 1, 0, none⟩ = some (.string s0) := stay b0 (by rw [hW2, ← hz1]; exact lit_cell _ _ _ _ _ rfl)
  have u1 : W0.cell? ⟨w.heap.size + 1, 1, none⟩ = some (.string s1) := stay b0 (by rw [hW2, ← hz1]; exact lit_cell _ _ _ _ _ rfl)
  have u2 : W0.cell? ⟨w.heap.size + 1, 2, none⟩ = some (.string s2) := stay b0 (by rw [hW2, ← hz1]; exact lit_cell _ _ _ _ _ rfl)
  have u3 : W0.cell? ⟨w.heap.size + 1, 3, none⟩ = some (.string s3) := stay b0 (by rw [hW2, ← hz1]; exact lit_cell _ _ _ _ _ rfl)
  have u4 : W0.cell? ⟨w.heap.size + 1, 4, none⟩ = some (.int .i64 nn) := stay b0 (by rw [hW2, ← hz1]; exact lit_cell _ _ _ _ _ rfl)
  have u5 : W0.cell? ⟨w.heap.size + 1, 5, none⟩ = some (.int .i64 co) := stay b0 (by rw [hW2, ← hz1]; exact lit_cell _ _ _ _ _ rfl)
  have u6 : W0.cell? ⟨w.heap.size + 1, 6, none⟩ = some (.int .i64 lm) := stay b0 (by rw [hW2, ← hz1]; exact lit_cell _ _ _ _ _ rfl)
  have u7 : W0.cell? ⟨w.heap.size + 1, 7, none⟩ = some (.slice da dn dc) := stay b0 (by rw [hW2, ← hz1]; exact lit_cell _ _ _ _ _ rfl)
  have m4 : W0.cell? ⟨w.heap.size + 1 + 1, 4, none⟩ = some (.int .i64 ln) := by rw [hW0, ← hz2]; exact lit_cell _ _ _ _ _ rfl
  have m5 : W0.cell? ⟨w.heap.size + 1 + 1, 5, none⟩ = some (.int .i64 lc) := by rw [hW0, ← hz2]; exact lit_cell _ _ _ _ _ rfl
  have m6 : W0.cell? ⟨w.heap.size + 1 + 1, 6, none⟩ = some (.int .i64 ll) := by rw [hW0, ← hz2]; exact lit_cell _ _ _ _ _ rfl
  have B0 := bnext b1 (bnext b2 b0)
  have hW : Hid (W0 = ((w.alloc (.cells #[.slice ca cn cc, .slice pa pn pc, .slice aa ak az, .slice qa qk qc, .int .u8 pol] 28)).alloc (.cells #[.string s0, .string s1, .string s2, .string s3, .int .i64 nn, .int .i64 co, .int .i64 lm, .slice da dn dc] 31)).alloc (.cells #[.string l0, .string l1, .string l2, .string l3, .int .i64 ln, .int .i64 lc, .int .i64 ll, .slice ea en ec] 31)) := hid (by rw [hW0, hW2, hW1])
  have hlt := World.block_lt_of_cell? W0 _ m4
  have hlv := World.block_lt_of_cell? W0 _ v0
  have hlu := World.block_lt_of_cell? W0 _ u0
  clear hW0 hW1 hW2 b0 b1 b2 hz1 hz2
  have kB := big_any ca pa aa qa cn cc pn pc ak az qk qc pol W0
  replace hC := hid hC
  go_enter Tryz.func3, Tryz.ntmps3
  go_wp2_with fail
  rw [← hW.out]
  refine kB.mono ?_
  rintro e w1 ⟨rfl, hb1⟩
  have D1 := bnext B0 hb1
  replace v0 := stay hb1 v0
  replace v1 := stay hb1 v1
  replace v2 := stay hb1 v2
  replace v3 := stay hb1 v3
  replace v4 := stay hb1 v4
  replace u0 := stay hb1 u0
  replace u1 := stay hb1 u1
  replace u2 := stay hb1 u2
  replace u3 := stay hb1 u3
  replace u4 := stay hb1 u4
  replace u5 := stay hb1 u5
  replace u6 := stay hb1 u6
  replace u7 := stay hb1 u7
  replace m4 := stay hb1 m4
  replace m5 := stay hb1 m5
  replace m6 := stay hb1 m6
  replace hlt := World.block_lt_of_cell? w1 _ m4
  replace hlv := World.block_lt_of_cell? w1 _ v0
  replace hlu := World.block_lt_of_cell? w1 _ u0
  clear kB hb1 B0 hW
  cases hbg : bigB cn pn ak qk with
  | true =>
    go_wp2_with fail
    refine (awake_any _).mono ?_
    rintro e wz ⟨rfl, hbz⟩
    go_wp2
    go_ret
    exact ⟨rfl, bnext D1 hbz⟩
  | false =>
    replace hbg := hid hbg
    have kC := kCk nn co lm w1 D1
    by_cases hch : ¬ chkP Z M A Q pol ⟨s0, s1, s2, s3, nn, co, lm, da, dn, dc⟩ = 0
    · generalize chkP Z M A Q pol ⟨s0, s1, s2, s3, nn, co, lm, da, dn, dc⟩ = R at *
      go_wp2_with fail
      refine kC.mono ?_
      rintro e w2 ⟨rfl, hb2⟩
      go_wp2_with fail
      refine (awake_any _).mono ?_
      rintro e wz ⟨rfl, hbz⟩
      go_wp2
      go_ret
      exact ⟨rfl, bnext (bnext D1 hb2) hbz⟩
    replace hch : chkP Z M A Q pol ⟨s0, s1, s2, s3, nn, co, lm, da, dn, dc⟩ = 0 := by omega
    rw [hch] at kC
    obtain ⟨h1, h2, i, h3, h4, h5, h6, h7, h8⟩ := chk_ok hch
    have hless := hid (fun a b c h1 h2 h3 => chk_less (nn' := a) (co' := b) (lm' := c) hch h1 h2 h3)
    replace hch := hid hch
    clear h4 h5 h6
    dsimp only at h3 h7 h8
    have hiM : i < M.length := by have := pi_lt h3; rwa [List.length_map] at this
    have hip : i < pn := by rw [← hC.out.ml]; exact hiM
    have hpart := rc_part h1 hiM
    have hps := part_set hpart
    obtain ⟨z, hz, hzz⟩ := hC.out.set _ (mAt_mem hiM)
    rw [hz, Int.toNat_natCast] at hps
    rw [hz, Int.toNat_natCast] at h8
    have hin := set_in hzz hps
    have hmost : (mAt M i).1.most ≤ 1048576 := by
      unfold partB at hpart
      simp only [Bool.and_eq_true, decide_eq_true_eq] at hpart
      exact hpart.1.2
    have hrc : (Nd.newP Z).2 = 0 := by
      unfold rcB at h1
      simp only [Bool.and_eq_true, decide_eq_true_eq] at h1
      exact h1.1.1.2
    have hnw := new_ok hrc
    have ha : (1 ≤ nn ∧ nn ≤ 32) ∧ (1 ≤ co ∧ co ≤ 64) ∧ 1 ≤ lm := by
      unfold askB at h2
      simp only [Bool.and_eq_true, decide_eq_true_eq] at h2
      obtain ⟨⟨⟨⟨⟨_, g2⟩, g3⟩, g4⟩, g5⟩, g6⟩ := h2
      exact ⟨⟨g2, g3⟩, ⟨g4, g5⟩, g6⟩
    have hlm : 1 ≤ lm ∧ lm ≤ 1048576 := ⟨ha.2.2, by omega⟩
    have hfn := hid (fun t on e h => fit_now (t := t) (on := on) (e := e) hnw ha.1 ha.2.1 hlm hin h8 h)
    have hON := fitN_lt Z nn co lm z
    have hin2 := fitN_in (nn := nn) (co := co) hnw hzz hlm
    have hln : 1 ≤ nn := ha.1.1
    have hlc : 1 ≤ co := ha.2.1.1
    have hl1 : 1 ≤ lm := ha.2.2
    have hZ32 := hnw.2.1
    have hprl : Hid ((prP Z).length = Z.length) := hid (by unfold prP; rw [List.length_map])
    have kN := fun w' (hb : Below w.heap.size w w') => Pf.new_any ca cn cc Z w' hC.out.il hC.out.ib (iat_map (hC.out.iat.below hb))
    rw [new_pr hnw] at kN
    have kF := fun w' (hb : Below w.heap.size w w') => pfind_any pa pn pc (M.map (·.1)) s3 w' (by rw [List.length_map]; exact hC.out.ml) hC.out.mb (hC.out.mat.below hb)
    rw [h3] at kF
    simp only [FRet] at kF
    clear h1 h2 hpart hps hmost hrc ha h7 h8
    replace h3 := hid h3
    go_wp2_with fail
    refine kC.mono ?_
    rintro e w2 ⟨rfl, hb2⟩
    have D2 := bnext D1 hb2
    replace v0 := stay hb2 v0
    replace v1 := stay hb2 v1
    replace v2 := stay hb2 v2
    replace v3 := stay hb2 v3
    replace v4 := stay hb2 v4
    replace u0 := stay hb2 u0
    replace u1 := stay hb2 u1
    replace u2 := stay hb2 u2
    replace u3 := stay hb2 u3
    replace u4 := stay hb2 u4
    replace u5 := stay hb2 u5
    replace u6 := stay hb2 u6
    replace u7 := stay hb2 u7
    replace m4 := stay hb2 m4
    replace m5 := stay hb2 m5
    replace m6 := stay hb2 m6
    replace hlt := World.block_lt_of_cell? w2 _ m4
    replace hlv := World.block_lt_of_cell? w2 _ v0
    replace hlu := World.block_lt_of_cell? w2 _ u0
    clear kC hb2 D1
    go_wp2_with fail
    refine (kN _ D2).mono ?_
    rintro e w3 ⟨ra, rc, L, rfl, hcu, hown, hb3⟩
    have D3 := bnext D2 hb3
    replace v0 := stay hb3 v0
    replace v1 := stay hb3 v1
    replace v2 := stay hb3 v2
    replace v3 := stay hb3 v3
    replace v4 := stay hb3 v4
    replace u0 := stay hb3 u0
    replace u1 := stay hb3 u1
    replace u2 := stay hb3 u2
    replace u3 := stay hb3 u3
    replace u4 := stay hb3 u4
    replace u5 := stay hb3 u5
    replace u6 := stay hb3 u6
    replace u7 := stay hb3 u7
    replace m4 := stay hb3 m4
    replace m5 := stay hb3 m5
    replace m6 := stay hb3 m6
    replace hlt := World.block_lt_of_cell? w3 _ m4
    replace hlv := World.block_lt_of_cell? w3 _ v0
    replace hlu := World.block_lt_of_cell? w3 _ u0
    have hpat := hid hown.pat
    clear hown kN hb3 D2
    dsimp only at *
    have hLl : L.length = (prP Z).length := by rw [← hcu]; unfold Pf.cutsOf; rw [List.length_map]
    have hLs : ∀ x ∈ L, x.C.length ≤ 4611686018427387904 := fun x hx => by
      have h1 : x.C ∈ Pf.cutsOf L := List.mem_map.2 ⟨x, hx, rfl⟩
      rw [hcu] at h1
      obtain ⟨c, _, e⟩ := List.mem_map.1 h1
      rw [← e]; simp
    go_wp2_with fail
    refine (kF _ D3).mono ?_
    rintro e w4 ⟨rfl, hb4⟩
    have D4 := bnext D3 hb4
    replace v0 := stay hb4 v0
    replace v1 := stay hb4 v1
    replace v2 := stay hb4 v2
    replace v3 := stay hb4 v3
    replace v4 := stay hb4 v4
    replace u0 := stay hb4 u0
    replace u1 := stay hb4 u1
    replace u2 := stay hb4 u2
    replace u3 := stay hb4 u3
    replace u4 := stay hb4 u4
    replace u5 := stay hb4 u5
    replace u6 := stay hb4 u6
    replace u7 := stay hb4 u7
    replace m4 := stay hb4 m4
    replace m5 := stay hb4 m5
    replace m6 := stay hb4 m6
    replace hlt := World.block_lt_of_cell? w4 _ m4
    replace hlv := World.block_lt_of_cell? w4 _ v0
    replace hlu := World.block_lt_of_cell? w4 _ u0
    have kFt : Hid (∀ w', Below w4.heap.size w4 w' → Calls Tryz.prog 9 #[.slice ra (prP Z).length rc, (askP nn co lm z).val none 0 0] w' fun e w2 => e = .returned (.tuple #[.int .i64 0, .int .u32 ((fitN Z nn co lm z : Nat) : Int), .int .i64 0]) ∧ Below w'.heap.size w' w2) := hid (fun w' h => by
      refine (Pf.fit_any ra (prP Z).length rc L (askP nn co lm z) none 0 0 w' hLl (by rw [hprl.out]; omega) hLs (Pf.PAt.below hpat.out (bnext hb4 h)) rfl (by omega) (fun b hb => by cases hb) hzz (Pf.BAt.nil _ _)).mono ?_
      rintro e w2 ⟨t, on, er, rfl, hF, hb⟩
      rw [hcu] at hF
      obtain ⟨rfl, rfl, rfl⟩ := hfn.out t on er hF
      exact ⟨rfl, hb⟩)
    clear kF hb4 D3 hpat hfn hcu hLl hLs
    obtain ⟨b0, o, e⟩ := hC.out.mat.place (by rw [List.length_map, hC.out.ml]; omega)
    subst e
    have hiP : i < (M.map (·.1)).length := by rw [List.length_map]; exact hiM
    obtain ⟨_, x1, _⟩ := (hC.out.mat.below D4).one hiP
    rw [mAt_fst hiM, hz] at x1
    have hip2 : (i : Int) < (pn : Int) := by omega
    generalize fitN Z nn co lm z = ON at *
    have hbits : bits .andNot .u32 (ON : Int) (z : Int) = 0 := by rw [u32_andNot_nat ON z hON hzz, hin2]; rfl
    clear hin2 hin hprl hZ32
    replace hnw := hid hnw
    replace hz := hid hz
    generalize hrn : (prP Z).length = rn at *
    replace hrn := hid hrn
    generalize hg1 : w.heap.size + 1 = g1 at *
    replace hg1 := hid hg1
    have hD4 := hid D4
    have v1s := v1
    generalize hg0 : w.heap.size = g0 at v0 v1 v2 v3 v4 hlv ⊢
    replace hg0 := hid hg0
    go_wp2_with fail
    refine wp_region_drawn (Rel := fun w w' => Below w.heap.size w w') (Pr := PrV (pvc g0 g1 rn rc i b0 o pn pc z ON ra nn co lm) [] (fun _ _ _ => True)) (by kernel_rfl) (by kernel_rfl) (drew_below _) bel_tr (PrV.mono (fun _ _ _ _ _ _ => trivial)) ?_ ?_
    · refine ⟨?_, ?_, ?_, ?_, ?_, ?_, ?_, ?_, ?_, ?_, ?_, ?_, ?_, ?_, ?_, ?_, ?_, ?_, ?_, ?_, ?_, ?_, trivial⟩
      · exact fun ac w hR hd hk K hK => yes (want_n rfl) (wp_mv _ rfl _ (get_keep (hk 7 (no_dst (by kernel_rfl))) rfl) (hK _ w (PrV.is rfl rfl) (Below.refl _ _)))
      · intro ac w hR hd hk K hK
        have e4 : ac.tmps[4]?.getD undef = (.pointer (some ⟨g1, 0, none⟩) : Value) := slot (get_keep (hk 4 (no_dst (by kernel_rfl))) rfl)
        refine yes (want_n rfl) ?_
        have hv := hid (hK (.pointer (some ⟨g1, 4, none⟩)) w (PrV.is rfl rfl) (Below.refl _ _))
        go_simp
        refine kq hv.out ?_
        rfl
      · intro ac w hR hd hk K hK
        have e46 : ac.tmps[46]?.getD undef = (.pointer (some ⟨g1, 4, none⟩) : Value) := slot ((hd 1 _ 46 rfl rfl rfl).val rfl)
        have x0 := stay hR u4
        refine yes (want_n rfl) ?_
        have hv := hid (hK (.int .i64 nn) w (PrV.is rfl rfl) (Below.refl _ _))
        go_simp
        refine kq hv.out ?_
        rfl
      · intro ac w hR hd hk K hK
        have e4 : ac.tmps[4]?.getD undef = (.pointer (some ⟨g1, 0, none⟩) : Value) := slot (get_keep (hk 4 (no_dst (by kernel_rfl))) rfl)
        refine yes (want_n rfl) ?_
        have hv := hid (hK (.pointer (some ⟨g1, 5, none⟩)) w (PrV.is rfl rfl) (Below.refl _ _))
        go_simp
        refine kq hv.out ?_
        rfl
      · intro ac w hR hd hk K hK
        have e48 : ac.tmps[48]?.getD undef = (.pointer (some ⟨g1, 5, none⟩) : Value) := slot ((hd 3 _ 48 rfl rfl rfl).val rfl)
        have x0 := stay hR u5
        refine yes (want_n rfl) ?_
        have hv := hid (hK (.int .i64 co) w (PrV.is rfl rfl) (Below.refl _ _))
        go_simp
        refine kq hv.out ?_
        rfl
      · intro ac w hR hd hk K hK
        have e4 : ac.tmps[4]?.getD undef = (.pointer (some ⟨g1, 0, none⟩) : Value) := slot (get_keep (hk 4 (no_dst (by kernel_rfl))) rfl)
        refine yes (want_n rfl) ?_
        have hv := hid (hK (.pointer (some ⟨g1, 6, none⟩)) w (PrV.is rfl rfl) (Below.refl _ _))
        go_simp
        refine kq hv.out ?_
        rfl
      · intro ac w hR hd hk K hK
        have e50 : ac.tmps[50]?.getD undef = (.pointer (some ⟨g1, 6, none⟩) : Value) := slot ((hd 5 _ 50 rfl rfl rfl).val rfl)
        have x0 := stay hR u6
        refine yes (want_n rfl) ?_
        have hv := hid (hK (.int .i64 lm) w (PrV.is rfl rfl) (Below.refl _ _))
        go_simp
        refine kq hv.out ?_
        rfl
      · intro ac w hR hd hk K hK
        have e3 : ac.tmps[3]?.getD undef = (.pointer (some ⟨g0, 0, none⟩) : Value) := slot (get_keep (hk 3 (no_dst (by kernel_rfl))) rfl)
        refine yes (want_n rfl) ?_
        have hv := hid (hK (.pointer (some ⟨g0, 1, none⟩)) w (PrV.is rfl rfl) (Below.refl _ _))
        go_simp
        refine kq hv.out ?_
        rfl
      · intro ac w hR hd hk K hK
        have e52 : ac.tmps[52]?.getD undef = (.pointer (some ⟨g0, 1, none⟩) : Value) := slot ((hd 7 _ 52 rfl rfl rfl).val rfl)
        have x0 := stay hR v1
        refine yes (want_n rfl) ?_
        have hv := hid (hK (.slice (some ⟨b0, o, none⟩) pn pc) w (PrV.is rfl rfl) (Below.refl _ _))
        go_simp
        refine kq hv.out ?_
        rfl
      · exact fun ac w hR hd hk K hK => yes (want_n rfl) (wp_mv _ rfl _ (get_keep (hk 9 (no_dst (by kernel_rfl))) rfl) (hK _ w (PrV.is rfl rfl) (Below.refl _ _)))
      · intro ac w hR hd hk K hK
        have e53 : ac.tmps[53]?.getD undef = (.slice (some ⟨b0, o, none⟩) pn pc : Value) := slot ((hd 8 _ 53 rfl rfl rfl).val rfl)
        have e54 : ac.tmps[54]?.getD undef = (.int .i64 (i : Int) : Value) := slot ((hd 9 _ 54 rfl rfl rfl).val rfl)
        have hi1 := hip2
        refine yes (want_n rfl) ?_
        have hv := hid (hK (.pointer (some ⟨b0, o + i * 5, none⟩)) w (PrV.is rfl rfl) (Below.refl _ _))
        go_simp
        refine kq hv.out ?_
        rfl
      · intro ac w hR hd hk K hK
        have e55 : ac.tmps[55]?.getD undef = (.pointer (some ⟨b0, o + i * 5, none⟩) : Value) := slot ((hd 10 _ 55 rfl rfl rfl).val rfl)
        refine yes (want_n rfl) ?_
        have hv := hid (hK (.pointer (some ⟨b0, o + i * 5 + 1, none⟩)) w (PrV.is rfl rfl) (Below.refl _ _))
        go_simp
        refine kq hv.out ?_
        rfl
      · intro ac w hR hd hk K hK
        have e56 : ac.tmps[56]?.getD undef = (.pointer (some ⟨b0, o + i * 5 + 1, none⟩) : Value) := slot ((hd 11 _ 56 rfl rfl rfl).val rfl)
        have x0 := stay hR x1
        refine yes (want_n rfl) ?_
        have hv := hid (hK (.int .u32 (z : Int)) w (PrV.is rfl rfl) (Below.refl _ _))
        go_simp
        refine kq hv.out ?_
        rfl
      · intro ac w hR hd hk K hK
        have e47 : ac.tmps[47]?.getD undef = (.int .i64 nn : Value) := slot ((hd 2 _ 47 rfl rfl rfl).val rfl)
        have e49 : ac.tmps[49]?.getD undef = (.int .i64 co : Value) := slot ((hd 4 _ 49 rfl rfl rfl).val rfl)
        have e51 : ac.tmps[51]?.getD undef = (.int .i64 lm : Value) := slot ((hd 6 _ 51 rfl rfl rfl).val rfl)
        have e57 : ac.tmps[57]?.getD undef = (.int .u32 (z : Int) : Value) := slot ((hd 12 _ 57 rfl rfl rfl).val rfl)
        refine yes (want_n rfl) ?_
        have hv := hid (hK (.agg #[.int .i64 nn, .int .i64 co, .int .i64 lm, .int .i64 0, .int .u32 (z : Int), .slice none 0 0]) w (PrV.is rfl rfl) (Below.refl _ _))
        go_simp
        refine kq hv.out ?_
        rfl
      · exact fun ac w hR hd hk K hK => yes (want_n rfl) (wp_callv 9 _ _ rfl _ Tryz.func9 rfl rfl _ (args2 ((hd 0 _ 45 rfl rfl rfl).val rfl) ((hd 13 _ 58 rfl rfl rfl).val rfl)) (kFt.out w hR) (by rintro e w' ⟨rfl, hb⟩; exact ⟨_, rfl, hK _ w' (PrV.is rfl rfl) (hb)⟩))
      · exact fun ac w hR hd hk K hK => yes (want_n rfl) (wp_mv _ rfl _ ((hd 14 _ 59 rfl rfl rfl).val rfl) (hK _ w (PrV.is rfl rfl) (Below.refl _ _)))
      · intro ac w hR hd hk K hK
        have e44 : ac.tmps[44]?.getD undef = (.tuple #[.int .i64 0, .int .u32 (ON : Int), .int .i64 0] : Value) := slot ((hd 15 _ 44 rfl rfl rfl).val rfl)
        refine yes (want_n rfl) ?_
        have hv := hid (hK (.int .i64 0) w (PrV.is rfl rfl) (Below.refl _ _))
        go_simp
        refine kq hv.out ?_
        rfl
      · intro ac w hR hd hk K hK
        have e44 : ac.tmps[44]?.getD undef = (.tuple #[.int .i64 0, .int .u32 (ON : Int), .int .i64 0] : Value) := slot ((hd 15 _ 44 rfl rfl rfl).val rfl)
        refine yes (want_n rfl) ?_
        have hv := hid (hK (.int .u32 (ON : Int)) w (PrV.is rfl rfl) (Below.refl _ _))
        go_simp
        refine kq hv.out ?_
        rfl
      · intro ac w hR hd hk K hK
        have e44 : ac.tmps[44]?.getD undef = (.tuple #[.int .i64 0, .int .u32 (ON : Int), .int .i64 0] : Value) := slot ((hd 15 _ 44 rfl rfl rfl).val rfl)
        refine yes (want_n rfl) ?_
        have hv := hid (hK (.int .i64 0) w (PrV.is rfl rfl) (Below.refl _ _))
        go_simp
        refine kq hv.out ?_
        rfl
      · exact fun ac w hR hd hk K hK => yes (want_n rfl) (wp_as _ rfl _ ((hd 16 _ 60 rfl rfl rfl).val rfl) (hK _ w (PrV.is rfl rfl) (Below.refl _ _)))
      · exact fun ac w hR hd hk K hK => yes (want_n rfl) (wp_as _ rfl _ ((hd 17 _ 61 rfl rfl rfl).val rfl) (hK _ w (PrV.is rfl rfl) (Below.refl _ _)))
      · exact fun ac w hR hd hk K hK => yes (want_n rfl) (wp_as _ rfl _ ((hd 18 _ 62 rfl rfl rfl).val rfl) (hK _ w (PrV.is rfl rfl) (Below.refl _ _)))
    · intro a w5 hdf hsz hkp hval hRw
      obtain ⟨f, hf⟩ : ∃ f, f = fun d => a.tmps.getD d undef := ⟨_, rfl⟩
      have h11 : f 11 = .int .i64 0 := by rw [hf]; exact (hval 19 _ 11 rfl rfl).val rfl
      have h12 : f 12 = .int .u32 (ON : Int) := by rw [hf]; exact (hval 20 _ 12 rfl rfl).val rfl
      have h13 : f 13 = .int .i64 0 := by rw [hf]; exact (hval 21 _ 13 rfl rfl).val rfl
      have hfa := act_filled hdf hsz hkp
      rw [← hf] at hfa
      rw [hfa]
      clear hdf hsz hkp hval hfa hf
      clear a
      simp only [fillAll, List.set_cons_zero, List.set_cons_succ, h11, h12, h13]
      clear h11 h12 h13
      replace v0 := stay hRw v0
      replace v1 := stay hRw v1
      replace v2 := stay hRw v2
      replace v3 := stay hRw v3
      replace v4 := stay hRw v4
      replace u0 := stay hRw u0
      replace u1 := stay hRw u1
      replace u2 := stay hRw u2
      replace u3 := stay hRw u3
      replace u4 := stay hRw u4
      replace u5 := stay hRw u5
      replace u6 := stay hRw u6
      replace u7 := stay hRw u7
      replace m4 := stay hRw m4
      replace m5 := stay hRw m5
      replace m6 := stay hRw m6
      replace x1 := stay hRw x1
      replace hlt := World.block_lt_of_cell? w5 _ m4
      replace hlv := World.block_lt_of_cell? w5 _ v0
      replace hlu := World.block_lt_of_cell? w5 _ u0
      have D5 := bnext hD4.out hRw
      clear kFt hRw D4 v1s
      have kSx : ∀ (a b c : Int), 1 ≤ a ∧ a ≤ nn → 1 ≤ b ∧ b ≤ co → 1 ≤ c ∧ c ≤ lm → Calls Tryz.prog 5 #[.agg #[.slice ca cn cc, .slice (some ⟨b0, o, none⟩) pn pc, .slice aa ak az, .slice qa qk qc, .int .u8 pol], .agg #[.string s0, .string s1, .string s2, .string s3, .int .i64 a, .int .i64 b, .int .i64 c, .slice da dn dc]] (w5.alloc (.cells #[.string s0, .string s1, .string s2, .string s3, .int .i64 a, .int .i64 b, .int .i64 c, .slice da dn dc] 31)) fun e w' => e = .returned (.int .i64 0) ∧ Below (w5.alloc (.cells #[.string s0, .string s1, .string s2, .string s3, .int .i64 a, .int .i64 b, .int .i64 c, .slice da dn dc] 31)).heap.size (w5.alloc (.cells #[.string s0, .string s1, .string s2, .string s3, .int .i64 a, .int .i64 b, .int .i64 c, .slice da dn dc] 31)) w' := fun a b c h1 h2 h3 => by
        have k := kCk a b c (w5.alloc (.cells #[.string s0, .string s1, .string s2, .string s3, .int .i64 a, .int .i64 b, .int .i64 c, .slice da dn dc] 31)) (bnext D5 (below_lit _ _))
        rw [hless.out a b c h1 h2 h3] at k
        exact k
      clear kCk hless
      go_wp2_with fail
      all_goals
        refine (kSx _ _ _ (by omega) (by omega) (by omega)).mono ?_
        rintro e w6 ⟨rfl, hb6⟩
        have D6 := bnext (bnext D5 (below_lit _ _)) hb6
        go_wp2_with fail
        refine (awake_any _).mono ?_
        rintro e wz ⟨rfl, hbz⟩
        go_wp2
        go_ret
        exact ⟨rfl, bnext D6 hbz⟩

end Go.Proofs.YtilncacmkfohdaaGreat
