/- The document's Check. -/
import Derived.Test.YtilncacmkfohdaaPi
import Derived.Test.YtilncacmkfohdaaVals
namespace Go.Proofs.Ytilncacmkfohdaa
open Go.RowKit
set_option linter.unusedVariables false

theorem able_cf {Z : List Int} {z : Nat} {co : Int} (hz : z < 4294967296) (hZ : Z.length ≤ 32) (hin : ∀ i, z.testBit i = true → i < Z.length) :
    (Nd.lst (Nd.gs (fun i => z.testBit i && Nd.coB (Nd.mkN Z) co i) (min (Nd.mkN Z).length 32))).length = cf z (greB Z co) := by
  unfold cf Nd.lst Nd.lstk
  rw [List.filter_filter]
  congr 1
  refine List.filter_congr fun i hi => ?_
  rw [Nd.gs_bit, Nd.mkN_len]
  cases hb : z.testBit i with
  | false => simp
  | true =>
    have h1 := hin i hb
    rw [decide_eq_true (by omega)]
    simp [Nd.coB, Nd.nodAt, Nd.mkN, h1, greB, itAt]

def pvkA (g3 gp z G n : Nat) (ra : Option Addr) (dl rc : Nat) (nn co lm X3 : Int) : List Value := [.pointer (some ⟨g3, 6, none⟩), .int .i64 lm, .pointer (some ⟨gp, 3, none⟩), .int .i64 X3, .bool true, .bool true, undef, undef, undef, undef, undef, undef, undef, undef, undef, undef, undef, .bool true]
def pvkB (g3 gp z G n : Nat) (ra : Option Addr) (dl rc : Nat) (nn co lm X3 : Int) : List Value := [.pointer (some ⟨g3, 6, none⟩), .int .i64 lm, .pointer (some ⟨gp, 3, none⟩), .int .i64 X3, .bool false, .bool false, .slice ra dl rc, .pointer (some ⟨gp, 1, none⟩), .int .u32 (z : Int), .pointer (some ⟨g3, 5, none⟩), .int .i64 co, .int .u32 (G : Int), undef, .int .i64 (n : Int), .pointer (some ⟨g3, 4, none⟩), .int .i64 nn, .bool true, .bool true]
def pvkC (g3 gp z G n : Nat) (ra : Option Addr) (dl rc : Nat) (nn co lm X3 : Int) : List Value := [.pointer (some ⟨g3, 6, none⟩), .int .i64 lm, .pointer (some ⟨gp, 3, none⟩), .int .i64 X3, .bool false, .bool false, .slice ra dl rc, .pointer (some ⟨gp, 1, none⟩), .int .u32 (z : Int), .pointer (some ⟨g3, 5, none⟩), .int .i64 co, .int .u32 (G : Int), undef, .int .i64 (n : Int), .pointer (some ⟨g3, 4, none⟩), .int .i64 nn, .bool false, .bool false]

set_option maxRecDepth 100000 in
set_option maxHeartbeats 8000000 in
theorem rchk_any (ca pa aa qa : Option Addr) (cn cc pn pc ak az qk qc : Nat) (pol : Int) (Z : List Int) (M : List (Prt × List ByteArray)) (A : List Acc) (Q : List Qu) (sp : Spc) (w : World) (hC : CfD w ca pa aa qa cn pn pc ak az qk qc Z M A Q) (hsu : sp.user.size ≤ 9223372036854775807) :
    Calls Try.prog 13 #[.agg #[.slice ca cn cc, .slice pa pn pc, .slice aa ak az, .slice qa qk qc, .int .u8 pol], .agg (sc sp).toArray] w fun e w' => e = .returned (.int .i64 (chkP Z M A Q pol sp)) ∧ Below w.heap.size w w' := by
  obtain ⟨s0, s1, s2, s3, nn, co, lm, da, dn, dc⟩ := sp
  dsimp only at hsu
  simp only [sc]
  obtain ⟨W1, hW1⟩ : ∃ W1, W1 = w.alloc (.cells #[.slice ca cn cc, .slice pa pn pc, .slice aa ak az, .slice qa qk qc, .int .u8 pol] 28) := ⟨_, rfl⟩
  obtain ⟨W0, hW0⟩ : ∃ W0, W0 = W1.alloc (.cells #[.string s0, .string s1, .string s2, .string s3, .int .i64 nn, .int .i64 co, .int .i64 lm, .slice da dn dc] 31) := ⟨_, rfl⟩
  have b1 : Below w.heap.size w W1 := by rw [hW1]; exact below_lit _ _
  have b0 : Below W1.heap.size W1 W0 := by rw [hW0]; exact below_lit _ _
  have hz1 : W1.heap.size = w.heap.size + 1 := by rw [hW1, size_lit]
  have v0 : W0.cell? ⟨w.heap.size, 0, none⟩ = some (.slice ca cn cc) := stay b0 (by rw [hW1]; exact lit_cell _ _ _ _ _ rfl)
  have v1 : W0.cell? ⟨w.heap.size, 1, none⟩ = some (.slice pa pn pc) := stay b0 (by rw [hW1]; exact lit_cell _ _ _ _ _ rfl)
  have v2 : W0.cell? ⟨w.heap.size, 2, none⟩ = some (.slice aa ak az) := stay b0 (by rw [hW1]; exact lit_cell _ _ _ _ _ rfl)
  have v3 : W0.cell? ⟨w.heap.size, 3, none⟩ = some (.slice qa qk qc) := stay b0 (by rw [hW1]; exact lit_cell _ _ _ _ _ rfl)
  have v4 : W0.cell? ⟨w.heap.size, 4, none⟩ = some (.int .u8 pol) := stay b0 (by rw [hW1]; exact lit_cell _ _ _ _ _ rfl)
  have u0 : W0.cell? ⟨w.heap.size + 1, 0, none⟩ = some (.string s0) := by rw [hW0, ← hz1]; exact lit_cell _ _ _ _ _ rfl
  have u1 : W0.cell? ⟨w.heap.size + 1, 1, none⟩ = some (.string s1) := by rw [hW0, ← hz1]; exact lit_cell _ _ _ _ _ rfl
  have u2 : W0.cell? ⟨w.heap.size + 1, 2, none⟩ = some (.string s2) := by rw [hW0, ← hz1]; exact lit_cell _ _ _ _ _ rfl
  have u3 : W0.cell? ⟨w.heap.size + 1, 3, none⟩ = some (.string s3) := by rw [hW0, ← hz1]; exact lit_cell _ _ _ _ _ rfl
  have u4 : W0.cell? ⟨w.heap.size + 1, 4, none⟩ = some (.int .i64 nn) := by rw [hW0, ← hz1]; exact lit_cell _ _ _ _ _ rfl
  have u5 : W0.cell? ⟨w.heap.size + 1, 5, none⟩ = some (.int .i64 co) := by rw [hW0, ← hz1]; exact lit_cell _ _ _ _ _ rfl
  have u6 : W0.cell? ⟨w.heap.size + 1, 6, none⟩ = some (.int .i64 lm) := by rw [hW0, ← hz1]; exact lit_cell _ _ _ _ _ rfl
  have u7 : W0.cell? ⟨w.heap.size + 1, 7, none⟩ = some (.slice da dn dc) := by rw [hW0, ← hz1]; exact lit_cell _ _ _ _ _ rfl
  have B0 := bnext b1 b0
  have k1 := rprt_any ca pa aa qa cn cc pn pc ak az qk qc pol Z M A Q W0 (hC.below B0)
  have hch := hid (show chkP Z M A Q pol ⟨s0, s1, s2, s3, nn, co, lm, da, dn, dc⟩ = _ by unfold chkP; rfl)
  dsimp only at hch
  have hak : Hid (askB ⟨s0, s1, s2, s3, nn, co, lm, da, dn, dc⟩ = (nameB s0 && decide (1 ≤ nn) && decide (nn ≤ 32) && decide (1 ≤ co) && decide (co ≤ 64) && decide (1 ≤ lm))) := hid rfl
  have hW : Hid (W0 = (w.alloc (.cells #[.slice ca cn cc, .slice pa pn pc, .slice aa ak az, .slice qa qk qc, .int .u8 pol] 28)).alloc (.cells #[.string s0, .string s1, .string s2, .string s3, .int .i64 nn, .int .i64 co, .int .i64 lm, .slice da dn dc] 31)) := hid (by rw [hW0, hW1])
  have hlt := World.block_lt_of_cell? W0 _ u0
  have hlv := World.block_lt_of_cell? W0 _ v0
  clear hW0 hW1 b0 b1 hz1
  generalize chkP Z M A Q pol ⟨s0, s1, s2, s3, nn, co, lm, da, dn, dc⟩ = R at *
  generalize askB ⟨s0, s1, s2, s3, nn, co, lm, da, dn, dc⟩ = QA at *
  have hpart := fun (h : rcB Z M A Q pol = true) (i : Nat) (hi : i < M.length) => part_set (rc_part h hi)
  have hconf := fun (h : rcB Z M A Q pol = true) => show confB A Q = true ∧ (Nd.newP Z).2 = 0 by
    unfold rcB at h
    simp only [Bool.and_eq_true, decide_eq_true_eq] at h
    exact h.1.1
  have kU := fun w' => rname_any s0 hsu w'
  replace hC := hid hC
  go_enter Try.func13, Try.ntmps13
  go_wp2_with fail
  rw [← hW.out]
  refine k1.mono ?_
  rintro e w1 ⟨rfl, hb1⟩
  have D1 := bnext B0 hb1
  replace v0 := stay hb1 v0
  replace v1 := stay hb1 v1
  replace v2 := stay hb1 v2
  replace v3 := stay hb1 v3
  replace v4 := stay hb1 v4
  replace u0 := stay hb1 u0
  replace u1 := stay hb1 u1
  replace u2 := stay hb1 u2
  replace u3 := stay hb1 u3
  replace u4 := stay hb1 u4
  replace u5 := stay hb1 u5
  replace u6 := stay hb1 u6
  replace u7 := stay hb1 u7
  replace hlt := World.block_lt_of_cell? w1 _ u0
  replace hlv := World.block_lt_of_cell? w1 _ v0
  clear k1 hb1 B0 hW
  cases hQ1 : rcB Z M A Q pol with
  | false =>
    rw [hQ1] at hch
    go_wp2
    go_ret
    exact ⟨ret_int hch.out.symm, D1⟩
  | true =>
    rw [hQ1] at hch
    replace hpart := hpart hQ1
    obtain ⟨hcf, hnw⟩ := hconf hQ1
    clear hconf
    replace hQ1 := hid hQ1
    replace hpart := hid hpart
    obtain ⟨hnwp, hz32⟩ := new_len hnw
    replace hnw := hid hnw
    replace hnwp := hid hnwp
    go_wp2_with fail
    refine (kU _).mono ?_
    rintro e w2 ⟨rfl, rfl⟩
    clear kU
    generalize nameB s0 = QN at *
    cases QN with
    | false =>
      have hR : Hid (R = 2) := hid (by rw [hch.out, hak.out]; rfl)
      clear hch hak
      go_wp2
      go_ret
      exact ⟨ret_int hR.out.symm, D1⟩
    | true =>
      by_cases a0 : nn < 1
      · have hR : Hid (R = 2) := hid (by rw [hch.out, hak.out, show decide (1 ≤ nn) = false from decide_eq_false (by omega)]; simp)
        clear hch hak
        go_wp2
        go_ret
        exact ⟨ret_int hR.out.symm, D1⟩
      by_cases a1 : 32 < nn
      · have hR : Hid (R = 2) := hid (by rw [hch.out, hak.out, show decide (nn ≤ 32) = false from decide_eq_false (by omega)]; simp)
        clear hch hak
        go_wp2
        go_ret
        exact ⟨ret_int hR.out.symm, D1⟩
      by_cases a2 : co < 1
      · have hR : Hid (R = 2) := hid (by rw [hch.out, hak.out, show decide (1 ≤ co) = false from decide_eq_false (by omega)]; simp)
        clear hch hak
        go_wp2
        go_ret
        exact ⟨ret_int hR.out.symm, D1⟩
      by_cases a3 : 64 < co
      · have hR : Hid (R = 2) := hid (by rw [hch.out, hak.out, show decide (co ≤ 64) = false from decide_eq_false (by omega)]; simp)
        clear hch hak
        go_wp2
        go_ret
        exact ⟨ret_int hR.out.symm, D1⟩
      by_cases a4 : lm < 1
      · have hR : Hid (R = 2) := hid (by rw [hch.out, hak.out, show decide (1 ≤ lm) = false from decide_eq_false (by omega)]; simp)
        clear hch hak
        go_wp2
        go_ret
        exact ⟨ret_int hR.out.symm, D1⟩
      have f0 : decide (nn < 1) = false := decide_eq_false a0
      have f1 : decide (32 < nn) = false := decide_eq_false a1
      have f2 : decide (co < 1) = false := decide_eq_false a2
      have f3 : decide (64 < co) = false := decide_eq_false a3
      have f4 : decide (lm < 1) = false := decide_eq_false a4
      have hask : QA = true := by rw [hak.out, show decide (1 ≤ nn) = true from decide_eq_true (by omega), show decide (nn ≤ 32) = true from decide_eq_true (by omega), show decide (1 ≤ co) = true from decide_eq_true (by omega), show decide (co ≤ 64) = true from decide_eq_true (by omega), show decide (1 ≤ lm) = true from decide_eq_true (by omega)]; rfl
      rw [hask] at hch
      clear hask hak
      have k3 := rpfind_any pa pn pc (M.map (·.1)) s3 w2 (by rw [List.length_map]; exact hC.out.c.ml) hC.out.c.mb (hC.out.c.mat.below D1)
      have k4 := rfind_any aa ak az A s1 w2 hC.out.c.al hC.out.c.ab (hC.out.c.aat.below D1)
      have k5 := rqos_any ca pa aa qa cn cc pn pc ak az qk qc pol A Q none 0 0 [] s2 w2 hC.out.c.al hC.out.c.ale hC.out.c.ql hC.out.qle hC.out.c.ab hC.out.c.qb hC.out.asz hC.out.qsz (hC.out.c.aat.below D1) (hC.out.c.qat.below D1) rfl (by omega) (JAt.nil _ _)
      have hqe : Hid (qErr A Q s2 = if (qi Q s2).isSome = true then 0 else 141) := hid (by unfold qErr; rw [if_pos hcf])
      generalize qVal A Q [] s2 = qv at *
      generalize qNum A Q [] s2 = qn at *
      generalize qErr A Q s2 = qe at *
      obtain ⟨v4, hv4⟩ := FRet_form (fi A s1)
      rw [hv4] at k4
      replace hv4 := hid hv4
      cases hp : pi (M.map (·.1)) s3 with
      | none =>
        rw [hp] at k3
        have hR : Hid (R = 141) := hid (by rw [hch.out, hp]; rfl)
        simp only [FRet] at k3
        clear hch hp
        go_wp2_with fail
        refine k3.mono ?_
        rintro e w3 ⟨rfl, rfl⟩
        go_wp2_with fail
        refine k4.mono ?_
        rintro e w4 ⟨rfl, rfl⟩
        go_wp2_with fail
        refine k5.mono ?_
        rintro e w5 ⟨rfl, hb5⟩
        go_wp2
        go_ret
        exact ⟨ret_int hR.out.symm, bnext D1 hb5⟩
      | some i =>
        rw [hp] at k3
        simp only [FRet] at k3
        have hiM : i < M.length := by have := pi_lt hp; rwa [List.length_map] at this
        have hip : i < pn := by rw [← hC.out.c.ml]; exact hiM
        have hch2 := hid (show R = (if (fi A s1).isSome = false then (141 : Int) else if (qi Q s2).isSome = false then 141 else if admB A (mAt M i).2 s1 = false then 160 else if (mAt M i).1.most < lm then 150 else if fitB Z (mAt M i).1.nodes.toNat nn co = false then 150 else 0) by rw [hch.out, hp]; rfl)
        clear hch
        replace hp := hid hp
        generalize (fi A s1).isSome = Q3 at *
        generalize (qi Q s2).isSome = Q4 at *
        go_wp2_with fail
        refine k3.mono ?_
        rintro e w3 ⟨rfl, rfl⟩
        go_wp2_with fail
        refine k4.mono ?_
        rintro e w4 ⟨rfl, rfl⟩
        go_wp2_with fail
        refine k5.mono ?_
        rintro e w5 ⟨rfl, hb5⟩
        have D5 := bnext D1 hb5
        replace v0 := stay hb5 v0
        replace v1 := stay hb5 v1
        replace v2 := stay hb5 v2
        replace v3 := stay hb5 v3
        replace v4 := stay hb5 v4
        replace u0 := stay hb5 u0
        replace u1 := stay hb5 u1
        replace u2 := stay hb5 u2
        replace u3 := stay hb5 u3
        replace u4 := stay hb5 u4
        replace u5 := stay hb5 u5
        replace u6 := stay hb5 u6
        replace u7 := stay hb5 u7
        replace hlt := World.block_lt_of_cell? w5 _ u0
        replace hlv := World.block_lt_of_cell? w5 _ v0
        clear k3 k4 k5 hb5 D1
        cases Q3 with
        | false =>
          have hR : Hid (R = 141) := hid (by rw [hch2.out]; rfl)
          clear hch2
          go_wp2
          go_ret
          exact ⟨ret_int hR.out.symm, D5⟩
        | true =>
          cases Q4 with
          | false =>
            have hR : Hid (R = 141) := hid (by rw [hch2.out]; rfl)
            have hqz : qe = 141 := by rw [hqe.out]; rfl
            clear hch2 hqe
            subst hqz
            go_wp2
            go_ret
            exact ⟨ret_int hR.out.symm, D5⟩
          | true =>
            have hqz : qe = 0 := by rw [hqe.out]; rfl
            clear hqe
            subst hqz
            have hiP : i < (M.map (·.1)).length := by rw [List.length_map]; exact hiM
            obtain ⟨b, o, e⟩ := hC.out.c.mat.place (by omega)
            subst e
            obtain ⟨x0, x1, x2, x3, x4⟩ := (hC.out.c.mat.below D5).one hiP
            rw [mAt_fst hiM] at x0 x1 x2 x3 x4
            have hmem := mAt_mem hiM
            obtain ⟨z, hz, hzz⟩ := hC.out.c.set _ hmem
            obtain ⟨t1, t2, t3⟩ := hC.out.c.min _ hmem
            rw [hz] at x1 hch2
            have hset := hpart.out i hiM
            rw [hz, Int.toNat_natCast] at hset
            rw [Int.toNat_natCast] at hch2
            have hin := set_in hzz hset
            have hab := hid (able_cf (co := co) hzz hz32 hin)
            have k7 := fun w' (hb : Below w.heap.size w w') => radm_any aa ak az A (mAt M i).1.da (mAt M i).1.dn (mAt M i).1.dc (mAt M i).2 s1 w' hC.out.c.al hC.out.c.ab hC.out.c.ale hC.out.asz (hC.out.c.aat.below hb) t1 t3 (t2.below hb)
            have k8 := fun w' (hb : Below w.heap.size w w') => Nd.newr_any ca cn cc Z w' hC.out.c.il (by have := hC.out.cb; omega) (iat_map (hC.out.c.iat.below hb))
            rw [hnwp.out] at k8
            have hfB : Hid (fitB Z z nn co = decide (nn ≤ ((cf z (greB Z co) : Nat) : Int))) := hid rfl
            clear t1 t2 t3 hmem hz hset hin
            generalize fitB Z z nn co = Q6 at *
            generalize admB A (mAt M i).2 s1 = Q5 at *
            generalize mAt M i = X at *
            obtain ⟨⟨X0, X1, X2, X3, X4, X5, X6⟩, XT⟩ := X
            dsimp only at *
            have B6 := below_lit w5 (.cells #[.string X0, .int .u32 (z : Int), .int .i64 X2, .int .i64 X3, .slice X4 X5 X6] 58)
            have D6 := bnext D5 B6
            obtain ⟨W6, hW6⟩ : ∃ W6, W6 = w5.alloc (.cells #[.string X0, .int .u32 (z : Int), .int .i64 X2, .int .i64 X3, .slice X4 X5 X6] 58) := ⟨_, rfl⟩
            have p1 : W6.cell? ⟨w5.heap.size, 1, none⟩ = some (.int .u32 (z : Int)) := by rw [hW6]; exact lit_cell _ _ _ _ _ rfl
            have p3 : W6.cell? ⟨w5.heap.size, 3, none⟩ = some (.int .i64 X3) := by rw [hW6]; exact lit_cell _ _ _ _ _ rfl
            have p4 : W6.cell? ⟨w5.heap.size, 4, none⟩ = some (.slice X4 X5 X6) := by rw [hW6]; exact lit_cell _ _ _ _ _ rfl
            rw [← hW6] at D6 B6
            have k7b := k7 W6 D6
            have hip2 : (i : Int) < (pn : Int) := by omega
            have hl6 := World.block_lt_of_cell? W6 _ p1
            replace hW6 := hid hW6
            have y0 := stay B6 v0
            have y2 := stay B6 v2
            have q1 := stay B6 u1
            cases Q5 with
            | false =>
              have hR : Hid (R = 160) := hid (by rw [hch2.out]; rfl)
              clear hch2
              go_wp2_with fail
              rw [← hW6.out]
              refine k7b.mono ?_
              rintro e w7 ⟨rfl, hb7⟩
              go_wp2
              go_ret
              exact ⟨ret_int hR.out.symm, bnext D6 hb7⟩
            | true =>
              go_wp2_with fail
              rw [← hW6.out]
              refine k7b.mono ?_
              rintro e w7 ⟨rfl, hb7⟩
              have D7 := bnext D6 hb7
              have E7 := bnext B6 hb7
              replace v0 := stay E7 v0
              replace v1 := stay E7 v1
              replace v2 := stay E7 v2
              replace v3 := stay E7 v3
              replace v4 := stay E7 v4
              replace u0 := stay E7 u0
              replace u1 := stay E7 u1
              replace u2 := stay E7 u2
              replace u3 := stay E7 u3
              replace u4 := stay E7 u4
              replace u5 := stay E7 u5
              replace u6 := stay E7 u6
              replace u7 := stay E7 u7
              replace hlt := World.block_lt_of_cell? w7 _ u0
              replace hlv := World.block_lt_of_cell? w7 _ v0
              replace p1 := stay hb7 p1
              replace p3 := stay hb7 p3
              clear k7 k7b hb7 B6 hl6 y0 y2 q1 x0 x1 x2 x3 x4
              go_wp2_with fail
              refine (k8 _ D7).mono ?_
              rintro e w8 ⟨ra, rc, rfl, hrc, hown, hb8⟩
              have D8 := bnext D7 hb8
              replace v0 := stay hb8 v0
              replace v1 := stay hb8 v1
              replace v2 := stay hb8 v2
              replace v3 := stay hb8 v3
              replace v4 := stay hb8 v4
              replace u0 := stay hb8 u0
              replace u1 := stay hb8 u1
              replace u2 := stay hb8 u2
              replace u3 := stay hb8 u3
              replace u4 := stay hb8 u4
              replace u5 := stay hb8 u5
              replace u6 := stay hb8 u6
              replace u7 := stay hb8 u7
              replace hlt := World.block_lt_of_cell? w8 _ u0
              replace hlv := World.block_lt_of_cell? w8 _ v0
              replace p1 := stay hb8 p1
              replace p3 := stay hb8 p3
              have hl8 := World.block_lt_of_cell? w8 _ p1
              have hdat := hid hown.dat
              clear hown k8 hb8
              dsimp only at *
              have kA := hid (fun w' (h : Below w8.heap.size w8 w') => Nd.abler_any ra (Nd.mkN Z).length rc (Nd.mkN Z) z co w' rfl (by rw [Nd.mkN_len]; omega) hzz (hdat.out.below h))
              have hGl := Nd.gs_lt (fun i => z.testBit i && Nd.coB (Nd.mkN Z) co i) (k := min (Nd.mkN Z).length 32) (by omega)
              generalize Nd.gs (fun i => z.testBit i && Nd.coB (Nd.mkN Z) co i) (min (Nd.mkN Z).length 32) = G at *
              have kL := hid (fun w' => Nd.listr_any G hGl w')
              obtain ⟨n, hn⟩ : ∃ n, n = cf z (greB Z co) := ⟨_, rfl⟩
              have hnl : Hid ((Nd.lst G).length = n) := hid (by rw [hab.out, hn])
              rw [← hn] at hfB
              clear hab hn
              generalize hdl : (Nd.mkN Z).length = dl at *
              replace hdl := hid hdl
              generalize hg3 : w.heap.size + 1 = g3 at *
              replace hg3 := hid hg3
              generalize w5.heap.size = gp at *
              by_cases hmm : X3 < lm
              · have hR : Hid (R = 150) := hid (by rw [hch2.out, if_neg (by simp), if_neg (by simp), if_neg (by simp), if_pos hmm])
                clear hch2
                go_wp2_with fail
                refine wp_region_drawn (Rel := fun w w' => Below w.heap.size w w') (Pr := PrV (pvkA g3 gp z G n ra dl rc nn co lm X3) [] (fun _ _ _ => True)) (by kernel_rfl) (by kernel_rfl) (drew_below _) bel_tr (PrV.mono (fun _ _ _ _ _ _ => trivial)) ?_ ?_
                · refine ⟨?_, ?_, ?_, ?_, ?_, ?_, ?_, ?_, ?_, ?_, ?_, ?_, ?_, ?_, ?_, ?_, ?_, ?_, trivial⟩
                  · intro ac w hR hd hk K hK
                    have e3 : ac.tmps[3]?.getD undef = (.pointer (some ⟨g3, 0, none⟩) : Value) := slot (get_keep (hk 3 (no_dst (by kernel_rfl))) rfl)
                    refine yes (want_n rfl) ?_
                    have hv := hid (hK (.pointer (some ⟨g3, 6, none⟩)) w (PrV.is rfl rfl) (Below.refl _ _))
                    go_simp
                    refine kq hv.out ?_
                    rfl
                  · intro ac w hR hd hk K hK
                    have e100 : ac.tmps[100]?.getD undef = (.pointer (some ⟨g3, 6, none⟩) : Value) := slot ((hd 0 _ 100 rfl rfl rfl).val rfl)
                    have x0 := stay hR u6
                    refine yes (want_n rfl) ?_
                    have hv := hid (hK (.int .i64 lm) w (PrV.is rfl rfl) (Below.refl _ _))
                    go_simp
                    refine kq hv.out ?_
                    rfl
                  · intro ac w hR hd hk K hK
                    have e12 : ac.tmps[12]?.getD undef = (.pointer (some ⟨gp, 0, none⟩) : Value) := slot (get_keep (hk 12 (no_dst (by kernel_rfl))) rfl)
                    refine yes (want_n rfl) ?_
                    have hv := hid (hK (.pointer (some ⟨gp, 3, none⟩)) w (PrV.is rfl rfl) (Below.refl _ _))
                    go_simp
                    refine kq hv.out ?_
                    rfl
                  · intro ac w hR hd hk K hK
                    have e102 : ac.tmps[102]?.getD undef = (.pointer (some ⟨gp, 3, none⟩) : Value) := slot ((hd 2 _ 102 rfl rfl rfl).val rfl)
                    have x0 := stay hR p3
                    refine yes (want_n rfl) ?_
                    have hv := hid (hK (.int .i64 X3) w (PrV.is rfl rfl) (Below.refl _ _))
                    go_simp
                    refine kq hv.out ?_
                    rfl
                  · intro ac w hR hd hk K hK
                    have e101 : ac.tmps[101]?.getD undef = (.int .i64 lm : Value) := slot ((hd 1 _ 101 rfl rfl rfl).val rfl)
                    have e103 : ac.tmps[103]?.getD undef = (.int .i64 X3 : Value) := slot ((hd 3 _ 103 rfl rfl rfl).val rfl)
                    have hq := hmm
                    refine yes (want_n rfl) ?_
                    have hv := hid (hK (.bool true) w (PrV.is rfl rfl) (Below.refl _ _))
                    go_simp
                    refine kq hv.out ?_
                    simp
                  · exact fun ac w hR hd hk K hK => yes (want_n rfl) (wp_mv _ rfl _ ((hd 4 _ 104 rfl rfl rfl).val rfl) (hK _ w (PrV.is rfl rfl) (Below.refl _ _)))
                  · exact fun ac w hR hd hk K hK => nope (want_f rfl rfl ((hd 5 _ 105 rfl rfl rfl).val rfl) (by decide)) (hK _ w (PrV.is rfl rfl) (Below.refl _ _))
                  · exact fun ac w hR hd hk K hK => nope (want_f rfl rfl ((hd 5 _ 105 rfl rfl rfl).val rfl) (by decide)) (hK _ w (PrV.is rfl rfl) (Below.refl _ _))
                  · exact fun ac w hR hd hk K hK => nope (want_f rfl rfl ((hd 5 _ 105 rfl rfl rfl).val rfl) (by decide)) (hK _ w (PrV.is rfl rfl) (Below.refl _ _))
                  · exact fun ac w hR hd hk K hK => nope (want_f rfl rfl ((hd 5 _ 105 rfl rfl rfl).val rfl) (by decide)) (hK _ w (PrV.is rfl rfl) (Below.refl _ _))
                  · exact fun ac w hR hd hk K hK => nope (want_f rfl rfl ((hd 5 _ 105 rfl rfl rfl).val rfl) (by decide)) (hK _ w (PrV.is rfl rfl) (Below.refl _ _))
                  · exact fun ac w hR hd hk K hK => nope (want_f rfl rfl ((hd 5 _ 105 rfl rfl rfl).val rfl) (by decide)) (hK _ w (PrV.is rfl rfl) (Below.refl _ _))
                  · exact fun ac w hR hd hk K hK => nope (want_f rfl rfl ((hd 5 _ 105 rfl rfl rfl).val rfl) (by decide)) (hK _ w (PrV.is rfl rfl) (Below.refl _ _))
                  · exact fun ac w hR hd hk K hK => nope (want_f rfl rfl ((hd 5 _ 105 rfl rfl rfl).val rfl) (by decide)) (hK _ w (PrV.is rfl rfl) (Below.refl _ _))
                  · exact fun ac w hR hd hk K hK => nope (want_f rfl rfl ((hd 5 _ 105 rfl rfl rfl).val rfl) (by decide)) (hK _ w (PrV.is rfl rfl) (Below.refl _ _))
                  · exact fun ac w hR hd hk K hK => nope (want_f rfl rfl ((hd 5 _ 105 rfl rfl rfl).val rfl) (by decide)) (hK _ w (PrV.is rfl rfl) (Below.refl _ _))
                  · exact fun ac w hR hd hk K hK => nope (want_f rfl rfl ((hd 5 _ 105 rfl rfl rfl).val rfl) (by decide)) (hK _ w (PrV.is rfl rfl) (Below.refl _ _))
                  · exact fun ac w hR hd hk K hK => yes (want_n rfl) (wp_pick _ _ _ rfl true _ ((hd 5 _ 105 rfl rfl rfl).val rfl) rfl (hK _ w (PrV.is rfl rfl) (Below.refl _ _)))
                · intro a w9 hdf hsz hkp hval hRw
                  obtain ⟨f, hf⟩ : ∃ f, f = fun d => a.tmps.getD d undef := ⟨_, rfl⟩
                  have h117 : f 117 = .bool true := by rw [hf]; exact (hval 17 _ 117 rfl rfl).val rfl
                  have hfa := act_filled hdf hsz hkp
                  rw [← hf] at hfa
                  rw [hfa]
                  clear hdf hsz hkp hval hfa hf
                  clear a
                  simp only [fillAll, List.set_cons_zero, List.set_cons_succ, h117]
                  clear h117
                  go_wp2
                  go_ret
                  exact ⟨ret_int hR.out.symm, bnext D8 hRw⟩
              · by_cases hnn : (n : Int) < nn
                · have hR : Hid (R = 150) := hid (by rw [hch2.out, if_neg (by simp), if_neg (by simp), if_neg (by simp), if_neg hmm, hfB.out, decide_eq_false (by omega)]; rfl)
                  clear hch2
                  go_wp2_with fail
                  refine wp_region_drawn (Rel := fun w w' => Below w.heap.size w w') (Pr := PrV (pvkB g3 gp z G n ra dl rc nn co lm X3) [12] (fun _ v _ => ∃ a c, v = .slice a n c)) (by kernel_rfl) (by kernel_rfl) (drew_below _) bel_tr (PrV.mono (fun _ _ _ _ h _ => h)) ?_ ?_
                  · refine ⟨?_, ?_, ?_, ?_, ?_, ?_, ?_, ?_, ?_, ?_, ?_, ?_, ?_, ?_, ?_, ?_, ?_, ?_, trivial⟩
                    · intro ac w hR hd hk K hK
                      have e3 : ac.tmps[3]?.getD undef = (.pointer (some ⟨g3, 0, none⟩) : Value) := slot (get_keep (hk 3 (no_dst (by kernel_rfl))) rfl)
                      refine yes (want_n rfl) ?_
                      have hv := hid (hK (.pointer (some ⟨g3, 6, none⟩)) w (PrV.is rfl rfl) (Below.refl _ _))
                      go_simp
                      refine kq hv.out ?_
                      rfl
                    · intro ac w hR hd hk K hK
                      have e100 : ac.tmps[100]?.getD undef = (.pointer (some ⟨g3, 6, none⟩) : Value) := slot ((hd 0 _ 100 rfl rfl rfl).val rfl)
                      have x0 := stay hR u6
                      refine yes (want_n rfl) ?_
                      have hv := hid (hK (.int .i64 lm) w (PrV.is rfl rfl) (Below.refl _ _))
                      go_simp
                      refine kq hv.out ?_
                      rfl
                    · intro ac w hR hd hk K hK
                      have e12 : ac.tmps[12]?.getD undef = (.pointer (some ⟨gp, 0, none⟩) : Value) := slot (get_keep (hk 12 (no_dst (by kernel_rfl))) rfl)
                      refine yes (want_n rfl) ?_
                      have hv := hid (hK (.pointer (some ⟨gp, 3, none⟩)) w (PrV.is rfl rfl) (Below.refl _ _))
                      go_simp
                      refine kq hv.out ?_
                      rfl
                    · intro ac w hR hd hk K hK
                      have e102 : ac.tmps[102]?.getD undef = (.pointer (some ⟨gp, 3, none⟩) : Value) := slot ((hd 2 _ 102 rfl rfl rfl).val rfl)
                      have x0 := stay hR p3
                      refine yes (want_n rfl) ?_
                      have hv := hid (hK (.int .i64 X3) w (PrV.is rfl rfl) (Below.refl _ _))
                      go_simp
                      refine kq hv.out ?_
                      rfl
                    · intro ac w hR hd hk K hK
                      have e101 : ac.tmps[101]?.getD undef = (.int .i64 lm : Value) := slot ((hd 1 _ 101 rfl rfl rfl).val rfl)
                      have e103 : ac.tmps[103]?.getD undef = (.int .i64 X3 : Value) := slot ((hd 3 _ 103 rfl rfl rfl).val rfl)
                      have hq := hmm
                      refine yes (want_n rfl) ?_
                      have hv := hid (hK (.bool false) w (PrV.is rfl rfl) (Below.refl _ _))
                      go_simp
                      refine kq hv.out ?_
                      simp [hmm]
                    · exact fun ac w hR hd hk K hK => yes (want_n rfl) (wp_mv _ rfl _ ((hd 4 _ 104 rfl rfl rfl).val rfl) (hK _ w (PrV.is rfl rfl) (Below.refl _ _)))
                    · exact fun ac w hR hd hk K hK => yes (want_g rfl rfl ((hd 5 _ 105 rfl rfl rfl).val rfl)) (wp_mv _ rfl _ (get_keep (hk 13 (no_dst (by kernel_rfl))) rfl) (hK _ w (PrV.is rfl rfl) (Below.refl _ _)))
                    · intro ac w hR hd hk K hK
                      have e12 : ac.tmps[12]?.getD undef = (.pointer (some ⟨gp, 0, none⟩) : Value) := slot (get_keep (hk 12 (no_dst (by kernel_rfl))) rfl)
                      refine yes (want_g rfl rfl ((hd 5 _ 105 rfl rfl rfl).val rfl)) ?_
                      have hv := hid (hK (.pointer (some ⟨gp, 1, none⟩)) w (PrV.is rfl rfl) (Below.refl _ _))
                      go_simp
                      refine kq hv.out ?_
                      rfl
                    · intro ac w hR hd hk K hK
                      have e107 : ac.tmps[107]?.getD undef = (.pointer (some ⟨gp, 1, none⟩) : Value) := slot ((hd 7 _ 107 rfl rfl rfl).val rfl)
                      have x0 := stay hR p1
                      refine yes (want_g rfl rfl ((hd 5 _ 105 rfl rfl rfl).val rfl)) ?_
                      have hv := hid (hK (.int .u32 (z : Int)) w (PrV.is rfl rfl) (Below.refl _ _))
                      go_simp
                      refine kq hv.out ?_
                      rfl
                    · intro ac w hR hd hk K hK
                      have e3 : ac.tmps[3]?.getD undef = (.pointer (some ⟨g3, 0, none⟩) : Value) := slot (get_keep (hk 3 (no_dst (by kernel_rfl))) rfl)
                      refine yes (want_g rfl rfl ((hd 5 _ 105 rfl rfl rfl).val rfl)) ?_
                      have hv := hid (hK (.pointer (some ⟨g3, 5, none⟩)) w (PrV.is rfl rfl) (Below.refl _ _))
                      go_simp
                      refine kq hv.out ?_
                      rfl
                    · intro ac w hR hd hk K hK
                      have e109 : ac.tmps[109]?.getD undef = (.pointer (some ⟨g3, 5, none⟩) : Value) := slot ((hd 9 _ 109 rfl rfl rfl).val rfl)
                      have x0 := stay hR u5
                      refine yes (want_g rfl rfl ((hd 5 _ 105 rfl rfl rfl).val rfl)) ?_
                      have hv := hid (hK (.int .i64 co) w (PrV.is rfl rfl) (Below.refl _ _))
                      go_simp
                      refine kq hv.out ?_
                      rfl
                    · exact fun ac w hR hd hk K hK => yes (want_g rfl rfl ((hd 5 _ 105 rfl rfl rfl).val rfl)) (wp_callv 44 _ _ rfl _ Try.func44 rfl rfl _ (args3 ((hd 6 _ 106 rfl rfl rfl).val rfl) ((hd 8 _ 108 rfl rfl rfl).val rfl) ((hd 10 _ 110 rfl rfl rfl).val rfl)) (kA.out w hR) (by rintro e w' ⟨rfl, hb⟩; exact ⟨_, rfl, hK _ w' (PrV.is rfl rfl) (hb)⟩))
                    · intro ac w hR hd hk K hK
                      refine yes (want_g rfl rfl ((hd 5 _ 105 rfl rfl rfl).val rfl)) ?_
                      refine wp_callv 43 _ _ rfl _ Try.func43 rfl rfl _ (args1 ((hd 11 _ 111 rfl rfl rfl).val rfl)) (kL.out w) ?_
                      rintro e w' ⟨v, rfl, hown, hb⟩
                      obtain ⟨a9, c9, rfl, hc9⟩ := owns_form hown
                      exact ⟨_, rfl, hK _ w' (PrV.by rfl ⟨a9, c9, by rw [L2_len, hnl.out]⟩) hb⟩
                    · intro ac w hR hd hk K hK
                      obtain ⟨a9, c9, q⟩ := (hd 12 _ 112 rfl rfl rfl).out rfl
                      have e112 : ac.tmps[112]?.getD undef = (.slice a9 n c9 : Value) := slot q
                      refine yes (want_g rfl rfl ((hd 5 _ 105 rfl rfl rfl).val rfl)) ?_
                      have hv := hid (hK (.int .i64 (n : Int)) w (PrV.is rfl rfl) (Below.refl _ _))
                      go_simp
                      refine kq hv.out ?_
                      rfl
                    · intro ac w hR hd hk K hK
                      have e3 : ac.tmps[3]?.getD undef = (.pointer (some ⟨g3, 0, none⟩) : Value) := slot (get_keep (hk 3 (no_dst (by kernel_rfl))) rfl)
                      refine yes (want_g rfl rfl ((hd 5 _ 105 rfl rfl rfl).val rfl)) ?_
                      have hv := hid (hK (.pointer (some ⟨g3, 4, none⟩)) w (PrV.is rfl rfl) (Below.refl _ _))
                      go_simp
                      refine kq hv.out ?_
                      rfl
                    · intro ac w hR hd hk K hK
                      have e114 : ac.tmps[114]?.getD undef = (.pointer (some ⟨g3, 4, none⟩) : Value) := slot ((hd 14 _ 114 rfl rfl rfl).val rfl)
                      have x0 := stay hR u4
                      refine yes (want_g rfl rfl ((hd 5 _ 105 rfl rfl rfl).val rfl)) ?_
                      have hv := hid (hK (.int .i64 nn) w (PrV.is rfl rfl) (Below.refl _ _))
                      go_simp
                      refine kq hv.out ?_
                      rfl
                    · intro ac w hR hd hk K hK
                      have e113 : ac.tmps[113]?.getD undef = (.int .i64 (n : Int) : Value) := slot ((hd 13 _ 113 rfl rfl rfl).val rfl)
                      have e115 : ac.tmps[115]?.getD undef = (.int .i64 nn : Value) := slot ((hd 15 _ 115 rfl rfl rfl).val rfl)
                      have hq := hnn
                      refine yes (want_g rfl rfl ((hd 5 _ 105 rfl rfl rfl).val rfl)) ?_
                      have hv := hid (hK (.bool true) w (PrV.is rfl rfl) (Below.refl _ _))
                      go_simp
                      refine kq hv.out ?_
                      simp
                    · exact fun ac w hR hd hk K hK => yes (want_n rfl) (wp_pick _ _ _ rfl false _ ((hd 5 _ 105 rfl rfl rfl).val rfl) ((hd 16 _ 116 rfl rfl rfl).val rfl) (hK _ w (PrV.is rfl rfl) (Below.refl _ _)))
                  · intro a w9 hdf hsz hkp hval hRw
                    obtain ⟨f, hf⟩ : ∃ f, f = fun d => a.tmps.getD d undef := ⟨_, rfl⟩
                    have h117 : f 117 = .bool true := by rw [hf]; exact (hval 17 _ 117 rfl rfl).val rfl
                    have hfa := act_filled hdf hsz hkp
                    rw [← hf] at hfa
                    rw [hfa]
                    clear hdf hsz hkp hval hfa hf
                    clear a
                    simp only [fillAll, List.set_cons_zero, List.set_cons_succ, h117]
                    clear h117
                    go_wp2
                    go_ret
                    exact ⟨ret_int hR.out.symm, bnext D8 hRw⟩
                · have hR : Hid (R = 0) := hid (by rw [hch2.out, if_neg (by simp), if_neg (by simp), if_neg (by simp), if_neg hmm, hfB.out, decide_eq_true (by omega)]; rfl)
                  clear hch2
                  go_wp2_with fail
                  refine wp_region_drawn (Rel := fun w w' => Below w.heap.size w w') (Pr := PrV (pvkC g3 gp z G n ra dl rc nn co lm X3) [12] (fun _ v _ => ∃ a c, v = .slice a n c)) (by kernel_rfl) (by kernel_rfl) (drew_below _) bel_tr (PrV.mono (fun _ _ _ _ h _ => h)) ?_ ?_
                  · refine ⟨?_, ?_, ?_, ?_, ?_, ?_, ?_, ?_, ?_, ?_, ?_, ?_, ?_, ?_, ?_, ?_, ?_, ?_, trivial⟩
                    · intro ac w hR hd hk K hK
                      have e3 : ac.tmps[3]?.getD undef = (.pointer (some ⟨g3, 0, none⟩) : Value) := slot (get_keep (hk 3 (no_dst (by kernel_rfl))) rfl)
                      refine yes (want_n rfl) ?_
                      have hv := hid (hK (.pointer (some ⟨g3, 6, none⟩)) w (PrV.is rfl rfl) (Below.refl _ _))
                      go_simp
                      refine kq hv.out ?_
                      rfl
                    · intro ac w hR hd hk K hK
                      have e100 : ac.tmps[100]?.getD undef = (.pointer (some ⟨g3, 6, none⟩) : Value) := slot ((hd 0 _ 100 rfl rfl rfl).val rfl)
                      have x0 := stay hR u6
                      refine yes (want_n rfl) ?_
                      have hv := hid (hK (.int .i64 lm) w (PrV.is rfl rfl) (Below.refl _ _))
                      go_simp
                      refine kq hv.out ?_
                      rfl
                    · intro ac w hR hd hk K hK
                      have e12 : ac.tmps[12]?.getD undef = (.pointer (some ⟨gp, 0, none⟩) : Value) := slot (get_keep (hk 12 (no_dst (by kernel_rfl))) rfl)
                      refine yes (want_n rfl) ?_
                      have hv := hid (hK (.pointer (some ⟨gp, 3, none⟩)) w (PrV.is rfl rfl) (Below.refl _ _))
                      go_simp
                      refine kq hv.out ?_
                      rfl
                    · intro ac w hR hd hk K hK
                      have e102 : ac.tmps[102]?.getD undef = (.pointer (some ⟨gp, 3, none⟩) : Value) := slot ((hd 2 _ 102 rfl rfl rfl).val rfl)
                      have x0 := stay hR p3
                      refine yes (want_n rfl) ?_
                      have hv := hid (hK (.int .i64 X3) w (PrV.is rfl rfl) (Below.refl _ _))
                      go_simp
                      refine kq hv.out ?_
                      rfl
                    · intro ac w hR hd hk K hK
                      have e101 : ac.tmps[101]?.getD undef = (.int .i64 lm : Value) := slot ((hd 1 _ 101 rfl rfl rfl).val rfl)
                      have e103 : ac.tmps[103]?.getD undef = (.int .i64 X3 : Value) := slot ((hd 3 _ 103 rfl rfl rfl).val rfl)
                      have hq := hmm
                      refine yes (want_n rfl) ?_
                      have hv := hid (hK (.bool false) w (PrV.is rfl rfl) (Below.refl _ _))
                      go_simp
                      refine kq hv.out ?_
                      simp [hmm]
                    · exact fun ac w hR hd hk K hK => yes (want_n rfl) (wp_mv _ rfl _ ((hd 4 _ 104 rfl rfl rfl).val rfl) (hK _ w (PrV.is rfl rfl) (Below.refl _ _)))
                    · exact fun ac w hR hd hk K hK => yes (want_g rfl rfl ((hd 5 _ 105 rfl rfl rfl).val rfl)) (wp_mv _ rfl _ (get_keep (hk 13 (no_dst (by kernel_rfl))) rfl) (hK _ w (PrV.is rfl rfl) (Below.refl _ _)))
                    · intro ac w hR hd hk K hK
                      have e12 : ac.tmps[12]?.getD undef = (.pointer (some ⟨gp, 0, none⟩) : Value) := slot (get_keep (hk 12 (no_dst (by kernel_rfl))) rfl)
                      refine yes (want_g rfl rfl ((hd 5 _ 105 rfl rfl rfl).val rfl)) ?_
                      have hv := hid (hK (.pointer (some ⟨gp, 1, none⟩)) w (PrV.is rfl rfl) (Below.refl _ _))
                      go_simp
                      refine kq hv.out ?_
                      rfl
                    · intro ac w hR hd hk K hK
                      have e107 : ac.tmps[107]?.getD undef = (.pointer (some ⟨gp, 1, none⟩) : Value) := slot ((hd 7 _ 107 rfl rfl rfl).val rfl)
                      have x0 := stay hR p1
                      refine yes (want_g rfl rfl ((hd 5 _ 105 rfl rfl rfl).val rfl)) ?_
                      have hv := hid (hK (.int .u32 (z : Int)) w (PrV.is rfl rfl) (Below.refl _ _))
                      go_simp
                      refine kq hv.out ?_
                      rfl
                    · intro ac w hR hd hk K hK
                      have e3 : ac.tmps[3]?.getD undef = (.pointer (some ⟨g3, 0, none⟩) : Value) := slot (get_keep (hk 3 (no_dst (by kernel_rfl))) rfl)
                      refine yes (want_g rfl rfl ((hd 5 _ 105 rfl rfl rfl).val rfl)) ?_
                      have hv := hid (hK (.pointer (some ⟨g3, 5, none⟩)) w (PrV.is rfl rfl) (Below.refl _ _))
                      go_simp
                      refine kq hv.out ?_
                      rfl
                    · intro ac w hR hd hk K hK
                      have e109 : ac.tmps[109]?.getD undef = (.pointer (some ⟨g3, 5, none⟩) : Value) := slot ((hd 9 _ 109 rfl rfl rfl).val rfl)
                      have x0 := stay hR u5
                      refine yes (want_g rfl rfl ((hd 5 _ 105 rfl rfl rfl).val rfl)) ?_
                      have hv := hid (hK (.int .i64 co) w (PrV.is rfl rfl) (Below.refl _ _))
                      go_simp
                      refine kq hv.out ?_
                      rfl
                    · exact fun ac w hR hd hk K hK => yes (want_g rfl rfl ((hd 5 _ 105 rfl rfl rfl).val rfl)) (wp_callv 44 _ _ rfl _ Try.func44 rfl rfl _ (args3 ((hd 6 _ 106 rfl rfl rfl).val rfl) ((hd 8 _ 108 rfl rfl rfl).val rfl) ((hd 10 _ 110 rfl rfl rfl).val rfl)) (kA.out w hR) (by rintro e w' ⟨rfl, hb⟩; exact ⟨_, rfl, hK _ w' (PrV.is rfl rfl) (hb)⟩))
                    · intro ac w hR hd hk K hK
                      refine yes (want_g rfl rfl ((hd 5 _ 105 rfl rfl rfl).val rfl)) ?_
                      refine wp_callv 43 _ _ rfl _ Try.func43 rfl rfl _ (args1 ((hd 11 _ 111 rfl rfl rfl).val rfl)) (kL.out w) ?_
                      rintro e w' ⟨v, rfl, hown, hb⟩
                      obtain ⟨a9, c9, rfl, hc9⟩ := owns_form hown
                      exact ⟨_, rfl, hK _ w' (PrV.by rfl ⟨a9, c9, by rw [L2_len, hnl.out]⟩) hb⟩
                    · intro ac w hR hd hk K hK
                      obtain ⟨a9, c9, q⟩ := (hd 12 _ 112 rfl rfl rfl).out rfl
                      have e112 : ac.tmps[112]?.getD undef = (.slice a9 n c9 : Value) := slot q
                      refine yes (want_g rfl rfl ((hd 5 _ 105 rfl rfl rfl).val rfl)) ?_
                      have hv := hid (hK (.int .i64 (n : Int)) w (PrV.is rfl rfl) (Below.refl _ _))
                      go_simp
                      refine kq hv.out ?_
                      rfl
                    · intro ac w hR hd hk K hK
                      have e3 : ac.tmps[3]?.getD undef = (.pointer (some ⟨g3, 0, none⟩) : Value) := slot (get_keep (hk 3 (no_dst (by kernel_rfl))) rfl)
                      refine yes (want_g rfl rfl ((hd 5 _ 105 rfl rfl rfl).val rfl)) ?_
                      have hv := hid (hK (.pointer (some ⟨g3, 4, none⟩)) w (PrV.is rfl rfl) (Below.refl _ _))
                      go_simp
                      refine kq hv.out ?_
                      rfl
                    · intro ac w hR hd hk K hK
                      have e114 : ac.tmps[114]?.getD undef = (.pointer (some ⟨g3, 4, none⟩) : Value) := slot ((hd 14 _ 114 rfl rfl rfl).val rfl)
                      have x0 := stay hR u4
                      refine yes (want_g rfl rfl ((hd 5 _ 105 rfl rfl rfl).val rfl)) ?_
                      have hv := hid (hK (.int .i64 nn) w (PrV.is rfl rfl) (Below.refl _ _))
                      go_simp
                      refine kq hv.out ?_
                      rfl
                    · intro ac w hR hd hk K hK
                      have e113 : ac.tmps[113]?.getD undef = (.int .i64 (n : Int) : Value) := slot ((hd 13 _ 113 rfl rfl rfl).val rfl)
                      have e115 : ac.tmps[115]?.getD undef = (.int .i64 nn : Value) := slot ((hd 15 _ 115 rfl rfl rfl).val rfl)
                      have hq := hnn
                      refine yes (want_g rfl rfl ((hd 5 _ 105 rfl rfl rfl).val rfl)) ?_
                      have hv := hid (hK (.bool false) w (PrV.is rfl rfl) (Below.refl _ _))
                      go_simp
                      refine kq hv.out ?_
                      simp [hnn]
                    · exact fun ac w hR hd hk K hK => yes (want_n rfl) (wp_pick _ _ _ rfl false _ ((hd 5 _ 105 rfl rfl rfl).val rfl) ((hd 16 _ 116 rfl rfl rfl).val rfl) (hK _ w (PrV.is rfl rfl) (Below.refl _ _)))
                  · intro a w9 hdf hsz hkp hval hRw
                    obtain ⟨f, hf⟩ : ∃ f, f = fun d => a.tmps.getD d undef := ⟨_, rfl⟩
                    have h117 : f 117 = .bool false := by rw [hf]; exact (hval 17 _ 117 rfl rfl).val rfl
                    have hfa := act_filled hdf hsz hkp
                    rw [← hf] at hfa
                    rw [hfa]
                    clear hdf hsz hkp hval hfa hf
                    clear a
                    simp only [fillAll, List.set_cons_zero, List.set_cons_succ, h117]
                    clear h117
                    go_wp2
                    go_ret
                    exact ⟨ret_int hR.out.symm, bnext D8 hRw⟩

end Go.Proofs.Ytilncacmkfohdaa
