/- What is answered to a spec. -/
import Derived.Test.YtilncacmkfohdaaGreatPe
namespace Go.Proofs.YtilncacmkfohdaaGreat
open Go.RowKit

set_option maxRecDepth 100000 in
set_option maxHeartbeats 4000000 in
theorem check_any (ca pa aa qa : Option Addr) (cn cc pn pc ak az qk qc : Nat) (pol : Int) (Z : List Int) (M : List (Prt × List ByteArray)) (A : List Acc) (Q : List Qu) (sp : Spc) (w : World) (hC : CfR w ca pa aa qa cn pn ak az qk Z M A Q) :
    Calls Tryz.prog 5 #[.agg #[.slice ca cn cc, .slice pa pn pc, .slice aa ak az, .slice qa qk qc, .int .u8 pol], .agg (sc sp).toArray] w fun e w' => e = .returned (.int .i64 (chkP Z M A Q pol sp)) ∧ Below w.heap.size w w' := by
  obtain ⟨s0, s1, s2, s3, nn, co, lm, da, dn, dc⟩ := sp
  have k2 := fun w' => asked_any ⟨s0, s1, s2, s3, nn, co, lm, da, dn, dc⟩ w'
  have k6 := fun (z : Nat) w' (hb : Below w.heap.size w w') (hz : z < 4294967296) (hin : ∀ i, z.testBit i = true → i < cn) => fits40 ca cn cc z Z ⟨s0, s1, s2, s3, nn, co, lm, da, dn, dc⟩ w' hz hC.il hC.ib (hC.iat.below hb) hin
  simp only [sc] at k2 k6 ⊢
  obtain ⟨W1, hW1⟩ : ∃ W1, W1 = w.alloc (.cells #[.slice ca cn cc, .slice pa pn pc, .slice aa ak az, .slice qa qk qc, .int .u8 pol] 28) := ⟨_, rfl⟩
  obtain ⟨W0, hW0⟩ : ∃ W0, W0 = W1.alloc (.cells #[.string s0, .string s1, .string s2, .string s3, .int .i64 nn, .int .i64 co, .int .i64 lm, .slice da dn dc] 31) := ⟨_, rfl⟩
  have b1 : Below w.heap.size w W1 := by rw [hW1]; exact below_lit _ _
  have b0 : Below W1.heap.size W1 W0 := by rw [hW0]; exact below_lit _ _
  have hz1 : W1.heap.size = w.heap.size + 1 := by rw [hW1, size_lit]
  have v0 : W0.cell? ⟨w.heap.size, 0, none⟩ = some (.slice ca cn cc) := stay b0 (by rw [hW1]; exact lit_cell _ _ _ _ _ rfl)
  have v1 : W0.cell? ⟨w.heap.size, 1, none⟩ = some (.slice pa pn pc) := stay b0 (by rw [hW1]; exact lit_cell _ _ _ _ _ rfl)
  have v2 : W0.cell? ⟨w.heap.size, 2, none⟩ = some (.slice aa ak az) := stay b0 (by rw [hW1]; exact lit_cell _ _ _ _ _ rfl)
  have v3 : W0.cell? ⟨w.heap.size, 3, none⟩ = some (.slice qa qk qc) := stay b0 (by rw [hW1]; exact lit_cell _ _ _ _ _ rfl)
  have v4 : W0.cell? ⟨w.heap.size, 4, none⟩ = some (.int .u8 pol) := stay b0 (by rw [hW1]; exact lit_cell _ _ _ _ _ rfl)
  have u0 : W0.cell? ⟨w.heap.size + 1, 0, none⟩ = some (.string s0) := by rw [hW0, ← hz1]; exact lit_cell _ _ _ _ _ rfl
  have u1 : W0.cell? ⟨w.heap.size + 1, 1, none⟩ = some (.string s1) := by rw [hW0, ← hz1]; exact lit_cell _ _ _ _ _ rfl
  have u2 : W0.cell? ⟨w.heap.size + 1, 2, none⟩ = some (.string s2) := by rw [hW0, ← hz1]; exact lit_cell _ _ _ _ _ rfl
  have u3 : W0.cell? ⟨w.heap.size + 1, 3, none⟩ = some (.string s3) := by rw [hW0, ← hz1]; exact lit_cell _ _ _ _ _ rfl
  have u4 : W0.cell? ⟨w.heap.size + 1, 4, none⟩ = some (.int .i64 nn) := by rw [hW0, ← hz1]; exact lit_cell _ _ _ _ _ rfl
  have u5 : W0.cell? ⟨w.heap.size + 1, 5, none⟩ = some (.int .i64 co) := by rw [hW0, ← hz1]; exact lit_cell _ _ _ _ _ rfl
  have u6 : W0.cell? ⟨w.heap.size + 1, 6, none⟩ = some (.int .i64 lm) := by rw [hW0, ← hz1]; exact lit_cell _ _ _ _ _ rfl
  have u7 : W0.cell? ⟨w.heap.size + 1, 7, none⟩ = some (.slice da dn dc) := by rw [hW0, ← hz1]; exact lit_cell _ _ _ _ _ rfl
  have B0 := bnext b1 b0
  have k1 := prt_any ca pa aa qa cn cc pn pc ak az qk qc pol Z M A Q W0 (hC.below B0)
  have hch := hid (show chkP Z M A Q pol ⟨s0, s1, s2, s3, nn, co, lm, da, dn, dc⟩ = _ by unfold chkP; rfl)
  dsimp only at hch
  have hW : Hid (W0 = (w.alloc (.cells #[.slice ca cn cc, .slice pa pn pc, .slice aa ak az, .slice qa qk qc, .int .u8 pol] 28)).alloc (.cells #[.string s0, .string s1, .string s2, .string s3, .int .i64 nn, .int .i64 co, .int .i64 lm, .slice da dn dc] 31)) := hid (by rw [hW0, hW1])
  have hlt := World.block_lt_of_cell? W0 _ u0
  have hlv := World.block_lt_of_cell? W0 _ v0
  clear hW0 hW1 b0 b1 hz1
  generalize chkP Z M A Q pol ⟨s0, s1, s2, s3, nn, co, lm, da, dn, dc⟩ = R at *
  generalize askB ⟨s0, s1, s2, s3, nn, co, lm, da, dn, dc⟩ = Q2 at *
  have hpart := fun (h : rcB Z M A Q pol = true) (i : Nat) (hi : i < M.length) => part_set (rc_part h hi)
  replace hC := hid hC
  go_enter Tryz.func5, Tryz.ntmps5
  go_wp2_with fail
  rw [← hW.out]
  refine k1.mono ?_
  rintro e w1 ⟨rfl, hb1⟩
  have D1 := bnext B0 hb1
  replace v0 := stay hb1 v0
  replace v1 := stay hb1 v1
  replace v2 := stay hb1 v2
  replace v3 := stay hb1 v3
  replace v4 := stay hb1 v4
  replace u0 := stay hb1 u0
  replace u1 := stay hb1 u1
  replace u2 := stay hb1 u2
  replace u3 := stay hb1 u3
  replace u4 := stay hb1 u4
  replace u5 := stay hb1 u5
  replace u6 := stay hb1 u6
  replace u7 := stay hb1 u7
  replace hlt := World.block_lt_of_cell? w1 _ u0
  replace hlv := World.block_lt_of_cell? w1 _ v0
  clear k1 hb1 B0 hW
  cases hQ1 : rcB Z M A Q pol with
  | false =>
    rw [hQ1] at hch
    go_wp2
    go_ret
    exact ⟨ret_int hch.out.symm, D1⟩
  | true =>
    rw [hQ1] at hch
    replace hpart := hpart hQ1
    replace hQ1 := hid hQ1
    replace hpart := hid hpart
    go_wp2_with fail
    refine (k2 _).mono ?_
    rintro e w2 ⟨rfl, hb2⟩
    have D2 := bnext D1 hb2
    replace v0 := stay hb2 v0
    replace v1 := stay hb2 v1
    replace v2 := stay hb2 v2
    replace v3 := stay hb2 v3
    replace v4 := stay hb2 v4
    replace u0 := stay hb2 u0
    replace u1 := stay hb2 u1
    replace u2 := stay hb2 u2
    replace u3 := stay hb2 u3
    replace u4 := stay hb2 u4
    replace u5 := stay hb2 u5
    replace u6 := stay hb2 u6
    replace u7 := stay hb2 u7
    replace hlt := World.block_lt_of_cell? w2 _ u0
    replace hlv := World.block_lt_of_cell? w2 _ v0
    clear k2 hb2 D1
    cases Q2 with
    | false =>
      go_wp2
      go_ret
      exact ⟨ret_int hch.out.symm, D2⟩
    | true =>
      have k3 := pfind_any pa pn pc (M.map (·.1)) s3 w2 (by rw [List.length_map]; exact hC.out.ml) hC.out.mb (hC.out.mat.below D2)
      cases hp : pi (M.map (·.1)) s3 with
      | none =>
        rw [hp] at k3
        have hR : Hid (R = 141) := hid (by rw [hch.out, hp]; rfl)
        simp only [FRet] at k3
        clear hch hp
        go_wp2_with fail
        refine k3.mono ?_
        rintro e w3 ⟨rfl, hb3⟩
        go_wp2
        go_ret
        exact ⟨ret_int hR.out.symm, bnext D2 hb3⟩
      | some i =>
        rw [hp] at k3
        simp only [FRet] at k3
        have hiM : i < M.length := by have := pi_lt hp; rwa [List.length_map] at this
        have hip : i < pn := by rw [← hC.out.ml]; exact hiM
        have hch2 := hid (show R = (if (fi A s1).isSome = false then (141 : Int) else if (qi Q s2).isSome = false then 141 else if admB A (mAt M i).2 s1 = false then 160 else if (mAt M i).1.most < lm then 150 else if fitB Z (mAt M i).1.nodes.toNat nn co = false then 150 else 0) by rw [hch.out, hp]; rfl)
        clear hch
        replace hp := hid hp
        go_wp2_with fail
        refine k3.mono ?_
        rintro e w3 ⟨rfl, hb3⟩
        have D3 := bnext D2 hb3
        replace v0 := stay hb3 v0
        replace v1 := stay hb3 v1
        replace v2 := stay hb3 v2
        replace v3 := stay hb3 v3
        replace v4 := stay hb3 v4
        replace u0 := stay hb3 u0
        replace u1 := stay hb3 u1
        replace u2 := stay hb3 u2
        replace u3 := stay hb3 u3
        replace u4 := stay hb3 u4
        replace u5 := stay hb3 u5
        replace u6 := stay hb3 u6
        replace u7 := stay hb3 u7
        replace hlt := World.block_lt_of_cell? w3 _ u0
        replace hlv := World.block_lt_of_cell? w3 _ v0
        clear k3 hb3 D2
        have k4 := hasacc_any aa ak az A s1 w3 hC.out.al hC.out.ab (hC.out.aat.below D3)
        have k5 := fun w' (hb : Below w.heap.size w w') => hasq_any qa qk qc Q s2 w' hC.out.ql hC.out.qb (hC.out.qat.below hb)
        generalize (fi A s1).isSome = Q3 at *
        generalize (qi Q s2).isSome = Q4 at *
        cases Q3 with
        | false =>
          have hR : Hid (R = 141) := hid (by rw [hch2.out]; rfl)
          clear hch2
          go_wp2_with fail
          refine k4.mono ?_
          rintro e w4 ⟨rfl, hb4⟩
          go_wp2
          go_ret
          exact ⟨ret_int hR.out.symm, bnext D3 hb4⟩
        | true =>
          go_wp2_with fail
          refine k4.mono ?_
          rintro e w4 ⟨rfl, hb4⟩
          have D4 := bnext D3 hb4
          replace v0 := stay hb4 v0
          replace v1 := stay hb4 v1
          replace v2 := stay hb4 v2
          replace v3 := stay hb4 v3
          replace v4 := stay hb4 v4
          replace u0 := stay hb4 u0
          replace u1 := stay hb4 u1
          replace u2 := stay hb4 u2
          replace u3 := stay hb4 u3
          replace u4 := stay hb4 u4
          replace u5 := stay hb4 u5
          replace u6 := stay hb4 u6
          replace u7 := stay hb4 u7
          replace hlt := World.block_lt_of_cell? w4 _ u0
          replace hlv := World.block_lt_of_cell? w4 _ v0
          clear k4 hb4 D3
          cases Q4 with
          | false =>
            have hR : Hid (R = 141) := hid (by rw [hch2.out]; rfl)
            clear hch2
            go_wp2_with fail
            refine (k5 _ D4).mono ?_
            rintro e w5 ⟨rfl, hb5⟩
            go_wp2
            go_ret
            exact ⟨ret_int hR.out.symm, bnext D4 hb5⟩
          | true =>
            go_wp2_with fail
            refine (k5 _ D4).mono ?_
            rintro e w5 ⟨rfl, hb5⟩
            have D5 := bnext D4 hb5
            replace v0 := stay hb5 v0
            replace v1 := stay hb5 v1
            replace v2 := stay hb5 v2
            replace v3 := stay hb5 v3
            replace v4 := stay hb5 v4
            replace u0 := stay hb5 u0
            replace u1 := stay hb5 u1
            replace u2 := stay hb5 u2
            replace u3 := stay hb5 u3
            replace u4 := stay hb5 u4
            replace u5 := stay hb5 u5
            replace u6 := stay hb5 u6
            replace u7 := stay hb5 u7
            replace hlt := World.block_lt_of_cell? w5 _ u0
            replace hlv := World.block_lt_of_cell? w5 _ v0
            clear k5 hb5 D4
            have hiP : i < (M.map (·.1)).length := by rw [List.length_map]; exact hiM
            obtain ⟨b, o, e⟩ := hC.out.mat.place (by omega)
            subst e
            obtain ⟨x0, x1, x2, x3, x4⟩ := (hC.out.mat.below D5).one hiP
            rw [mAt_fst hiM] at x0 x1 x2 x3 x4
            have hmem := mAt_mem hiM
            obtain ⟨z, hz, hz32⟩ := hC.out.set _ hmem
            obtain ⟨t1, t2, t3⟩ := hC.out.min _ hmem
            rw [hz] at x1 hch2
            have hset := hpart.out i hiM
            rw [hz, Int.toNat_natCast] at hset
            rw [hC.out.il] at hset
            have k6b := fun w' hb => k6 z w' hb hz32 (set_in hz32 hset)
            rw [Int.toNat_natCast] at hch2
            have k7 := fun w' (hb : Below w.heap.size w w') => admits_any aa ak az A (mAt M i).1.da (mAt M i).1.dn (mAt M i).1.dc (mAt M i).2 s1 w' hC.out.al hC.out.ab hC.out.ale (hC.out.aat.below hb) t1 t3 (t2.below hb)
            clear t1 t2 t3 hmem hz k6 hset
            generalize fitB Z z nn co = Q6 at *
            generalize admB A (mAt M i).2 s1 = Q5 at *
            generalize mAt M i = X at *
            obtain ⟨⟨X0, X1, X2, X3, X4, X5, X6⟩, XT⟩ := X
            dsimp only at *
            have B6 := below_lit w5 (.cells #[.string X0, .int .u32 (z : Int), .int .i64 X2, .int .i64 X3, .slice X4 X5 X6] 47)
            have D6 := bnext D5 B6
            obtain ⟨W6, hW6⟩ : ∃ W6, W6 = w5.alloc (.cells #[.string X0, .int .u32 (z : Int), .int .i64 X2, .int .i64 X3, .slice X4 X5 X6] 47) := ⟨_, rfl⟩
            have p1 : W6.cell? ⟨w5.heap.size, 1, none⟩ = some (.int .u32 (z : Int)) := by rw [hW6]; exact lit_cell _ _ _ _ _ rfl
            have p3 : W6.cell? ⟨w5.heap.size, 3, none⟩ = some (.int .i64 X3) := by rw [hW6]; exact lit_cell _ _ _ _ _ rfl
            have p4 : W6.cell? ⟨w5.heap.size, 4, none⟩ = some (.slice X4 X5 X6) := by rw [hW6]; exact lit_cell _ _ _ _ _ rfl
            rw [← hW6] at D6 B6
            have k7b := k7 W6 D6
            have hip2 : (i : Int) < (pn : Int) := by omega
            have y0 := stay B6 v0
            have y2 := stay B6 v2
            have q1 := stay B6 u1
            have hl6 := World.block_lt_of_cell? W6 _ p1
            replace hW6 := hid hW6
            cases Q5 with
            | false =>
              have hR : Hid (R = 160) := hid (by rw [hch2.out]; rfl)
              clear hch2
              go_wp2_with fail
              rw [← hW6.out]
              refine k7b.mono ?_
              rintro e w7 ⟨rfl, hb7⟩
              go_wp2
              go_ret
              exact ⟨ret_int hR.out.symm, bnext D6 hb7⟩
            | true =>
              go_wp2_with fail
              rw [← hW6.out]
              refine k7b.mono ?_
              rintro e w7 ⟨rfl, hb7⟩
              have D7 := bnext D6 hb7
              have E7 := bnext B6 hb7
              replace v0 := stay E7 v0
              replace v1 := stay E7 v1
              replace v2 := stay E7 v2
              replace v3 := stay E7 v3
              replace v4 := stay E7 v4
              replace u0 := stay E7 u0
              replace u1 := stay E7 u1
              replace u2 := stay E7 u2
              replace u3 := stay E7 u3
              replace u4 := stay E7 u4
              replace u5 := stay E7 u5
              replace u6 := stay E7 u6
              replace u7 := stay E7 u7
              replace hlt := World.block_lt_of_cell? w7 _ u0
              replace hlv := World.block_lt_of_cell? w7 _ v0
              replace p1 := stay hb7 p1
              replace p3 := stay hb7 p3
              have hl7 := World.block_lt_of_cell? w7 _ p1
              clear k7 k7b hb7 B6 hl6 y0 y2 q1 x0 x1 x2 x3 x4
              by_cases hm : X3 < lm
              · have hR : Hid (R = 150) := hid (by rw [hch2.out, if_neg (by simp), if_neg (by simp), if_neg (by simp), if_pos hm])
                clear hch2
                go_wp2
                go_ret
                exact ⟨ret_int hR.out.symm, D7⟩
              · have k8 := k6b w7 D7
                cases Q6 with
                | false =>
                  have hR : Hid (R = 150) := hid (by rw [hch2.out, if_neg (by simp), if_neg (by simp), if_neg (by simp), if_neg hm]; rfl)
                  clear hch2
                  go_wp2_with fail
                  refine k8.mono ?_
                  rintro e w8 ⟨rfl, hb8⟩
                  go_wp2
                  go_ret
                  exact ⟨ret_int hR.out.symm, bnext D7 hb8⟩
                | true =>
                  have hR : Hid (R = 0) := hid (by rw [hch2.out, if_neg (by simp), if_neg (by simp), if_neg (by simp), if_neg hm]; rfl)
                  clear hch2
                  go_wp2_with fail
                  refine k8.mono ?_
                  rintro e w8 ⟨rfl, hb8⟩
                  go_wp2
                  go_ret
                  exact ⟨ret_int hR.out.symm, bnext D7 hb8⟩

end Go.Proofs.YtilncacmkfohdaaGreat
