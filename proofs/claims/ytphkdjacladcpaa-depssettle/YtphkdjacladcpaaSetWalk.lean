/- Jobs go on, and what holds goes on holding. -/
import Derived.Test.YtphkdjacladcpaaSr12
import Derived.Test.YtphkdjacladcpaaSr15
import Derived.Test.YtphkdjacladcpaaAg
import Derived.Deep.DeepCutAuto
namespace Go.Proofs.Ytphkdjacladcpaa
open Go.RowKit
set_option linter.unusedVariables false
set_option linter.unusedSimpArgs false

/-- The jobs as they are. -/
structure JS (w wr : World) (ra : Option Addr) (k rc : Nat) (M : List (Job × List Dp)) : Prop where
  jo : JO wr w.heap.size (.slice ra k rc) M
  len : M.length = k
  each : ∀ p ∈ M, p.2.length = p.1.s.dn ∧ p.1.s.dn * 16 ≤ 140737488355328 ∧ 0 ≤ p.1.on ∧ p.1.on < 4294967296
theorem JS.below {w wr w' : World} {ra : Option Addr} {k rc : Nat} {M : List (Job × List Dp)} (h : JS w wr ra k rc M) (hb : Below wr.heap.size wr w') : JS w w' ra k rc M := ⟨h.jo.below hb, h.len, h.each⟩
theorem JS.put {w wr : World} {g k rc p base2 : Nat} {M : List (Job × List Dp)} (h : JS w wr (some ⟨g, 0, none⟩) k rc M) (hp : p < k) {X : Job} {D : List Dp} (hx : DOwn wr base2 (.slice X.s.da X.s.dn X.s.dc) D) (hb2 : g < base2) (hb3 : w.heap.size ≤ base2) (hl : D.length = X.s.dn) (hd : X.s.dn * 16 ≤ 140737488355328) (h0 : 0 ≤ X.on) (h1 : X.on < 4294967296) :
    JS w (wr.setCells g (p * 17) (jc X)) (some ⟨g, 0, none⟩) k rc (M.set p (X, D)) := by
  refine ⟨JO.put h.jo h.len hp X D (owns_low hx hb3) (fun y hy => ?_), by rw [List.length_set]; exact h.len, fun z hz => ?_⟩
  · rw [hy] at hx
    have := (owns_blk hx).1
    omega
  · rcases List.mem_or_eq_of_mem_set hz with h2 | h2
    · exact h.each z h2
    · rw [h2]; exact ⟨hl, hd, h0, h1⟩
theorem JS.there {w wr : World} {g k rc p : Nat} {M : List (Job × List Dp)} (h : JS w wr (some ⟨g, 0, none⟩) k rc M) (hp : p < k) : wr.there g (p * 17) 17 := by
  have ho := h.jo.own
  rw [h.len] at ho
  obtain ⟨g2, c2, e, _, _, _, hf⟩ := owns_spot ho (by omega)
  simp only [Value.slice.injEq, Option.some.injEq, Addr.mk.injEq] at e
  obtain ⟨⟨rfl, _⟩, _⟩ := e
  intro i hi
  have hr := (h.jo.jat).range (i := p) (by rw [List.length_map, h.len]; exact hp)
  rw [Nat.zero_add] at hr
  have hi2 : i < (jc (jobAt (M.map (·.1)) p)).length := by rw [jc_len]; exact hi
  refine ⟨?_, hf _⟩
  rw [hr i _ (List.getElem?_eq_getElem hi2)]
  rfl
theorem own_row {w : World} {base gb n c : Nat} {a : Option Addr} {L : List Dp} (h : DOwn w base (.slice a n c) L) (hg : gb < base) (cs : Array Value) : DOwn (w.setRow gb cs) base (.slice a n c) L := by
  refine owns_kp h (kp_setRow (S := fun i => i = gb) (Kp.refl _ _) rfl cs) fun q hq hs => ?_
  subst hs
  cases ha : a with
  | none => rw [ha] at hq; simp [Value.ownBlock] at hq
  | some y =>
    rw [ha, ownBlock_some] at hq
    rw [ha] at h
    have := (owns_blk h).1
    simp at hq
    omega
theorem sh_facts (N : Int) : ∃ (A : Int) (S P2 : Nat), (if 31 < N then 31 else N) = A ∧ (if 0 < A then A else 0) = (S : Int) ∧ IntKind.u32.wrap (2 ^ min S 32) = (P2 : Int) ∧ IntKind.u32.wrap ((P2 : Int) - 1) = (P2 : Int) - 1 ∧ 0 ≤ (P2 : Int) - 1 ∧ (P2 : Int) - 1 < 4294967296 := by
  have key : ∀ S : Nat, S ≤ 31 → IntKind.u32.wrap (2 ^ min S 32) = ((2 ^ S : Nat) : Int) ∧ IntKind.u32.wrap (((2 ^ S : Nat) : Int) - 1) = ((2 ^ S : Nat) : Int) - 1 ∧ 0 ≤ ((2 ^ S : Nat) : Int) - 1 ∧ ((2 ^ S : Nat) : Int) - 1 < 4294967296 := by
    have : ∀ S : Fin 32, IntKind.u32.wrap (2 ^ min S.val 32) = ((2 ^ S.val : Nat) : Int) ∧ IntKind.u32.wrap (((2 ^ S.val : Nat) : Int) - 1) = ((2 ^ S.val : Nat) : Int) - 1 ∧ 0 ≤ ((2 ^ S.val : Nat) : Int) - 1 ∧ ((2 ^ S.val : Nat) : Int) - 1 < 4294967296 := by decide +kernel
    intro S hS
    exact this ⟨S, by omega⟩
  obtain ⟨A, hA⟩ : ∃ A, A = (if 31 < N then 31 else N) := ⟨_, rfl⟩
  have hA31 : A ≤ 31 := by rw [hA]; split <;> omega
  obtain ⟨S, hS, hS2⟩ : ∃ S : Nat, (if 0 < A then A else 0) = (S : Int) ∧ S ≤ 31 := by
    by_cases h : 0 < A
    · exact ⟨A.toNat, by rw [if_pos h]; omega, by omega⟩
    · exact ⟨0, by rw [if_neg h]; rfl, by omega⟩
  exact ⟨A, S, 2 ^ S, hA.symm, hS, key S hS2⟩

set_option maxRecDepth 100000 in
set_option maxHeartbeats 8000000 in
theorem settle_any (a c t : Option Addr) (n cn k ck m cm : Nat) (D : List Dp) (M : List (Job × List Dp)) (T : List (Int × Int)) (w : World) (hD : D.length = n) (hM : M.length = k) (hT : T.length = m) (lD : n * 16 ≤ 140737488355328) (lM : k * 184 ≤ 140737488355328) (lT : m * 16 ≤ 140737488355328) (hatD : DAt w a D) (hatM : JAt w c (M.map (·.1))) (hin : JIn w M) (hon : ∀ p ∈ M, 0 ≤ p.1.on ∧ p.1.on < 4294967296) (hatT : PAt w t T) :
    Calls Try.prog 4 #[.slice a n cn, .slice c k ck, .slice t m cm] w fun e w' => e = .returned (.bool true) ∧ Below w.heap.size w w' := by
  have kW := fun w => awake_any w
  by_cases h1 : 60 < k
  · have d1 : (60 : Int) < (k : Int) := by omega
    go_enter Try.func4, Try.ntmps4
    go_wp2_with fail
    refine (kW _).mono ?_
    rintro e w1 ⟨rfl, hb1⟩
    go_wp2_with fail
    go_ret
    exact ⟨rfl, hb1⟩
  have d1 : ¬ (60 : Int) < (k : Int) := by omega
  by_cases h2 : 60 < n
  · have d2 : (60 : Int) < (n : Int) := by omega
    go_enter Try.func4, Try.ntmps4
    go_wp2_with fail
    refine (kW _).mono ?_
    rintro e w1 ⟨rfl, hb1⟩
    go_wp2_with fail
    go_ret
    exact ⟨rfl, hb1⟩
  have d2 : ¬ (60 : Int) < (n : Int) := by omega
  have kJ := copyJ c k ck M w hM lM hatM hin
  replace hD := hid hD
  replace hM := hid hM
  replace hT := hid hT
  replace hatD := hid hatD
  replace hatM := hid hatM
  replace hin := hid hin
  replace hon := hid hon
  replace hatT := hid hatT
  go_enter Try.func4, Try.ntmps4
  go_wp2_with fail
  refine kJ.mono ?_
  rintro e w1 ⟨ra, rc, M', rfl, hrc, hJ, hre, hb1⟩
  have hJS : JS w w1 ra k rc M' := by
    refine ⟨hJ, by rw [reJ_len hre]; exact hM.out, fun p hp => ?_⟩
    obtain ⟨i, hi, rfl⟩ := List.getElem_of_mem hp
    have hi2 : i < M.length := by rw [← reJ_len hre]; exact hi
    obtain ⟨⟨x, y, hx⟩, hx2⟩ := reJ_at hre i hi2 hi
    have q1 := hin.out M[i] (List.getElem_mem hi2)
    have q2 := hon.out M[i] (List.getElem_mem hi2)
    rw [hx, hx2]
    exact ⟨q1.1, q1.2.2, q2⟩
  have kH := fun (M2 : List (Job × List Dp)) (wx : World) (h : JS w wx ra k rc M2) (hb : Below w.heap.size w wx) => holds_any a n cn D ra k rc (M2.map (·.1)) wx hD.out (by omega) (hatD.out.below hb) (by rw [List.length_map]; exact h.len) (by omega) h.jo.jat
  have kN := fun (M2 : List (Job × List Dp)) (wx : World) (h : JS w wx ra k rc M2) (hb : Below w.heap.size w wx) => never_any a n cn D ra k rc (M2.map (·.1)) wx hD.out (by omega) (hatD.out.below hb) (by rw [List.length_map]; exact h.len) (by omega) h.jo.jat
  clear hJ hre kJ
  replace kH := hid kH
  replace kN := hid kN
  have k1 := kH.out M' w1 hJS hb1
  obtain ⟨H0, hH0⟩ : ∃ H0, H0 = holdsP D (M'.map (·.1)) := ⟨_, rfl⟩
  obtain ⟨N0, hN0⟩ : ∃ N0, N0 = neverP D (M'.map (·.1)) := ⟨_, rfl⟩
  rw [← hH0] at k1
  go_wp2_with fail
  refine k1.mono ?_
  rintro e w2 ⟨rfl, hb2⟩
  have B2 := bnext hb1 hb2
  have hJS2 := hJS.below hb2
  have k2 := kN.out M' w2 hJS2 B2
  rw [← hN0] at k2
  replace hH0 := hid hH0
  replace hN0 := hid hN0
  go_wp2_with fail
  refine k2.mono ?_
  rintro e w3 ⟨rfl, hb3⟩
  have B3 := bnext B2 hb3
  have hJS3 := hid (hJS2.below hb3)
  clear k1 k2 hJS hJS2 hb1 hb2 hb3 B2
  go_wp2_with fail
  go_loopw [8, 9, 10] (fun vh vn vi wr => ∃ (i : Nat) (M2 : List (Job × List Dp)), i ≤ m ∧ i ≤ 60 ∧ vi = .int .i64 (i : Int) ∧ vh = .bool (holdsP D (M2.map (·.1))) ∧ vn = .bool (neverP D (M2.map (·.1))) ∧ Hid (JS w wr ra k rc M2) ∧ Below w.heap.size w wr) (fun _ _ vi _ => 60 - (intOf vi).toNat)
  case atStart => exact ⟨0, M', Nat.zero_le _, by omega, rfl, by rw [hH0.out], by rw [hN0.out], hJS3, B3⟩
  case round =>
    obtain ⟨i, M2, him, hi60, rfl, rfl, rfl, hJ4, hb⟩ := hrel
    have hnb := not_both (D := D) (L := M2.map (·.1))
    obtain ⟨H, hHe⟩ : ∃ H, H = holdsP D (M2.map (·.1)) := ⟨_, rfl⟩
    obtain ⟨N, hNe⟩ : ∃ N, N = neverP D (M2.map (·.1)) := ⟨_, rfl⟩
    rw [← hHe, ← hNe] at hnb
    rw [← hHe, ← hNe]
    replace hHe := hid hHe
    replace hNe := hid hNe
    have hcase : (H = true ∧ N = false) ∨ (H = false ∧ N = true) ∨ (H = false ∧ N = false) := by
      cases H
      · cases N
        · exact .inr (.inr ⟨rfl, rfl⟩)
        · exact .inr (.inl ⟨rfl, rfl⟩)
      · exact .inl ⟨rfl, hnb rfl⟩
    clear hnb
    by_cases hlt : i < m ∧ i < 60
    · obtain ⟨hlm, hl6⟩ := hlt
      have i1 : (i : Int) < (m : Int) := by omega
      have i2 : (i : Int) < 60 := by omega
      by_cases hk0 : k = 0
      · subst hk0
        rcases hcase with ⟨rfl, rfl⟩ | ⟨rfl, rfl⟩ | ⟨rfl, rfl⟩
        all_goals
          go_wp2_with fail
          refine (kW _).mono ?_
          rintro e w5 ⟨rfl, hb5⟩
          go_wp2_with fail
          go_ret
          exact ⟨rfl, bnext hb hb5⟩
      have hkp : 0 < k := by omega
      obtain ⟨b, o, e⟩ := hatT.out.place (by rw [hT.out]; omega)
      subst e
      obtain ⟨x, y, x0, x1⟩ := (hatT.out.below hb).one (i := i) (by rw [hT.out]; exact hlm)
      have kk0 : ((k : Int) == 0) = false := by simpa using hk0
      have kP := fun w => pick_any x k w hkp (by omega)
      replace hk0 := hid hk0
      obtain ⟨g, gc, e, hg1, hg5, hgc, _⟩ := owns_spot (by have := hJ4.out.jo.own; rw [hJ4.out.len] at this; exact this) hkp
      simp only [Value.slice.injEq] at e
      obtain ⟨rfl, _, rfl⟩ := e
      rcases hcase with ⟨rfl, rfl⟩ | ⟨rfl, rfl⟩ | ⟨rfl, rfl⟩
      · go_wp2_with fail
        refine (kP _).mono ?_
        rintro e w5 ⟨⟨p, hp, rfl⟩, rfl⟩
        have hpM : p < M2.length := by rw [hJ4.out.len]; exact hp
        have hpm : p < (M2.map (·.1)).length := by rw [List.length_map]; exact hpM
        have hJr : Hid (w5.rangeAt g (p * 17) (jc (jobAt (M2.map (·.1)) p))) := hid (by have := (hJ4.out.jo.jat).range hpm; rw [Nat.zero_add] at this; exact this)
        obtain ⟨hDl, hDb, hon0, hon1⟩ := hJ4.out.each M2[p] (List.getElem_mem hpM)
        have hDo := hJ4.out.jo.dep M2[p] (List.getElem_mem hpM)
        have hJid : Hid ((jobAt (M2.map (·.1)) p).id = (jobAt (M2.map (·.1)) p).id) := hid rfl
        obtain ⟨J, hJe⟩ : ∃ J, J = jobAt (M2.map (·.1)) p := ⟨_, rfl⟩
        obtain ⟨DJ, hDe⟩ : ∃ DJ, DJ = M2[p].2 := ⟨_, rfl⟩
        have hfst : M2[p].1 = J := by rw [hJe, ← jobAt_eq hpm]; simp
        rw [hfst, ← hDe] at hDl hDo
        rw [hfst] at hDb hon0 hon1
        rw [← hJe] at hJr
        replace hJid : Hid (J.id = (jobAt (M2.map (·.1)) p).id) := hid (by rw [hJe])
        have hDat : DAt w5 J.s.da DJ := hDo.dat
        replace hJe := hid hJe
        replace hDe := hid hDe
        replace hfst := hid hfst
        replace hDo := hid hDo
        replace x1 := hid x1
        clear x0 hpm
        go_upto_region 12 with fail
        refine Code.wp_mono nrm_of ?_
        refine set_r12 hp hlm x1 hJr (hid ?_)
        intro d60 d61 d62 d63 d64 d65 d66 d67 d68 d69 d70 q w6 hq hb6 hlt6 hrow6
        have kF := finish_any J q 0 1099511627776 DJ w6 hon0 hon1 hDl hDb (hDat.below hb6)
        replace hrow6 := hid hrow6
        replace hDat := hid hDat
        go_wp2_with (refine wpList_load_row rfl 42 (.tmp 12) rfl w5.heap.size rfl 42 (jc J).toArray (0, 0) _ hrow6.out Try.underlying42 rfl (by kernel_rfl) ?_)
        refine kF.mono ?_
        rintro e w7 ⟨hBT, hb7⟩
        clear kF
        have C7 := bnext hb6 hb7
        have hz6 := hb6.size
        have hz7 := hb7.size
        obtain ⟨EF, hEF⟩ : ∃ EF, EF = finE J q 1099511627776 := ⟨_, rfl⟩
        rw [← hEF] at hBT
        replace hEF := hid hEF
        have hrow7 : w7.heap[w5.heap.size]? = some (.cells (jc J).toArray 42 (0, 0)) := by rw [hb7.block _ hlt6]; exact hrow6.out
        -- what Finish told
        have hXF : ∃ XF : Job, e = .returned (.tuple #[.agg (jc XF).toArray, .int .i64 EF]) ∧ (EF = 0 → ∃ xx yy, XF = (fini J q 0 1099511627776).re xx yy ∧ DOwn w7 (w6.heap.size + 1 + 1) (.slice xx J.s.dn yy) DJ) := by
          rcases hBT with ⟨h0, x', y', rfl, h1, h2⟩ | ⟨h0, rfl⟩
          · rw [h0]; exact ⟨_, rfl, fun _ => ⟨x', y', rfl, h2⟩⟩
          · exact ⟨job0, rfl, fun h => absurd h h0⟩
        clear hBT
        obtain ⟨XF, rfl, hXF⟩ := hXF
        have blf := below_lit w7 (.cells (jc XF).toArray 42)
        have rowf := heap_alloc_new w7 (.cells (jc XF).toArray 42)
        have szf := size_lit w7 (.cells (jc XF).toArray 42)
        have C8 := bnext C7 blf
        have hrow8 : (w7.alloc (.cells (jc XF).toArray 42)).heap[w5.heap.size]? = some (.cells (jc J).toArray 42 (0, 0)) := by rw [blf.block _ (by omega)]; exact hrow7
        have hoF := hid (fun h => by obtain ⟨xx, yy, h1, h2⟩ := hXF h; exact (⟨xx, yy, h1, h2.below blf⟩ : ∃ xx yy, XF = (fini J q 0 1099511627776).re xx yy ∧ DOwn (w7.alloc (.cells (jc XF).toArray 42)) (w6.heap.size + 1 + 1) (.slice xx J.s.dn yy) DJ))
        clear hXF hrow7
        obtain ⟨w8, hw8⟩ : ∃ w8, w8 = w7.alloc (.cells (jc XF).toArray 42) := ⟨_, rfl⟩
        rw [← hw8] at hrow8 hoF C8 rowf szf
        replace hrow8 := hid hrow8
        replace rowf := hid rowf
        obtain ⟨gb, hgb⟩ : ∃ gb, gb = w7.heap.size := ⟨_, rfl⟩
        have hgz : gb < w8.heap.size := by omega
        have hgb5 : w5.heap.size < gb := by omega
        rw [← hgb] at rowf
        by_cases hq2 : q = 2
        · subst hq2
          go_upto_region 15 with (refine wpList_store_row rfl 42 (.tmp 14) (.tmp 75) rfl w7.heap.size (jc XF).toArray rfl rfl 42 _ (heap_alloc_new w7 _) (by kernel_rfl) rfl (jc_all _) ?_; rw [alloc_setRow])
          rw [← hw8, ← hgb]
          replace hw8 := hid hw8
          replace hgb := hid hgb
          obtain ⟨A, S, P2, qA, qS, qP, qP2, q0, q1⟩ := sh_facts J.s.nodes
          obtain ⟨NW, hNW⟩ : ∃ NW, NW = (if J.sub < 0 then 0 else J.sub) := ⟨_, rfl⟩
          refine Code.wp_mono nrm_of ?_
          refine set_r15 (D := DJ) (J1 := begun J ((P2 : Int) - 1) NW) (E := beginE J ((P2 : Int) - 1) NW) hrow8 (by omega) rowf hgz (hid rfl) (by omega) (hid qA) (hid qS) (hid qP) (hid qP2) (hid hNW.symm) (hid (fun W hW => begin_any J _ NW DJ W hon0 hon1 q0 q1 hDl hDb (hDat.out.below (bnext C8 hW)))) (hid ?_)
          intro d79 d80 d81 d82 d83 d84 d85 d86 d87 d88 d89 d90 d91 d92 d93 X9 W9 hb9 hX9
          have C9 := below_setRow (g := gb) (bnext C8 hb9) (by omega) (jc X9).toArray
          have rowb : (W9.setRow gb (jc X9).toArray).heap[gb]? = some (.cells (jc X9).toArray 42 (0, 0)) := setRow_heap _ _ _ _ _ _ (by rw [hb9.block _ hgz]; exact rowf.out)
          have hX8 : beginE J ((P2 : Int) - 1) NW = 0 → ∃ xx yy, X9 = (begun J ((P2 : Int) - 1) NW).re xx yy ∧ DOwn (W9.setRow gb (jc X9).toArray) w8.heap.size (.slice xx J.s.dn yy) DJ := fun h => by
            obtain ⟨xx, yy, h1, _, h2⟩ := hX9 h
            exact ⟨xx, yy, h1, own_row h2 hgz _⟩
          clear hX9 hoF
          obtain ⟨EB, hEB⟩ : ∃ EB, EB = beginE J ((P2 : Int) - 1) NW := ⟨_, rfl⟩
          rw [← hEB] at hX8 ⊢
          obtain ⟨w9, hw9⟩ : ∃ w9, w9 = W9.setRow gb (jc X9).toArray := ⟨_, rfl⟩
          rw [← hw9] at C9 rowb hX8 ⊢
          have Cn := C9
          replace hw9 := hid hw9
          by_cases hE : EB = 0
          · obtain ⟨xx, yy, hXe, hox⟩ := hX8 hE
            subst hXe
            rw [hE] at hEB ⊢
            have hXid : ((begun J ((P2 : Int) - 1) NW).re xx yy).id = J.id := rfl
            obtain ⟨X, hX⟩ : ∃ X, X = (begun J ((P2 : Int) - 1) NW).re xx yy := ⟨_, rfl⟩
            rw [← hX] at hXid rowb
            have hXdn : X.s.dn = J.s.dn := by rw [hX]; rfl
            have hXon : 0 ≤ X.on ∧ X.on < 4294967296 := by rw [hX]; exact ⟨q0, q1⟩
            have hoX : DOwn w9 w5.heap.size (.slice X.s.da X.s.dn X.s.dc) DJ := by rw [hX]; exact owns_low hox (by omega)
            have hJ9 := (hJ4.out.below Cn)
            have hJn := hid (hJ9.put hp hoX hg5 hb.size (by rw [hXdn]; exact hDl) (by rw [hXdn]; exact hDb) hXon.1 hXon.2)
            have Bn := (bnext hb Cn).trans ((setCells_kp (g := g) (jc X) (p * 17) w9).below (base := w.heap.size) (fun i hi => by omega) (bnext hb Cn).size)
            have hth := hid (hJ9.there hp)
            have hidd := hid (hXid.trans hJid.out)
            have hopen : Hid (overB (jobAt (M2.map (·.1)) p).st = false) := by
              have := begin_open hEB.symm
              rw [← hJe.out]
              exact hid this
            have hmp : Hid ((M2.set p (X, DJ)).map (·.1) = (M2.map (·.1)).set p X) := hid (by rw [List.map_set])
            have hpL : Hid (p < (M2.map (·.1)).length) := hid (by rw [List.length_map, hJ4.out.len]; exact hp)
            replace hX := hid hX
            replace hXid := hid hXid
            clear hX8 qA qS qP qP2 q0 q1 hNW
            replace hEB := hid hEB
            replace hE := hid hE
            clear hJ9 hoX hXdn hXon hox
            have hCa := jc_all X
            obtain ⟨CC, hCC⟩ : ∃ CC, CC = (jc X).toArray := ⟨_, rfl⟩
            have hCl : CC.toList = jc X := by rw [hCC]
            have hCz : CC.size = 17 := by rw [hCC]; rfl
            have hCi : (Try.prog.info? 42).map (·.size) = some CC.size := by rw [hCz]; kernel_rfl
            have hth' : w9.there g (p * 17) CC.size := by rw [hCz]; exact hth.out
            rw [← hCC] at rowb hCa
            replace hCC := hid hCC
            replace hCz := hid hCz
            replace hth' := hid hth'
            replace hCi := hid hCi
            replace hCl := hid hCl
            replace rowb := hid rowb
            have pk : (p : Int) < (k : Int) := by omega
            have hz0 : (0 : Nat) + p * 17 = p * 17 := Nat.zero_add _
            go_wp2_with (first
              | (refine wpList_store_mid rfl 42 (.tmp 99) (.tmp 98) rfl g (p * 17) CC rfl rfl hth'.out hCi.out hCa ?_)
              | (refine wpList_load_row rfl 42 (.tmp 14) rfl gb rfl 42 CC (0, 0) _ rowb.out Try.underlying42 rfl hCi.out ?_))
            rw [hCl.out]
            generalize hwn : w9.setCells g (p * 17) (jc X) = wn at *
            have hH3 : holdsP D ((M2.set p (X, DJ)).map (·.1)) = true := by rw [hmp.out]; exact holds_set hpL.out hidd.out hopen.out (hHe.out.symm)
            obtain ⟨N3, hN3⟩ : ∃ N3, N3 = neverP D ((M2.set p (X, DJ)).map (·.1)) := ⟨_, rfl⟩
            have k1 := kH.out (M2.set p (X, DJ)) _ hJn.out Bn
            rw [hH3] at k1
            replace hH3 := hid hH3
            replace hN3 := hid hN3
            go_wp2_with fail
            refine k1.mono ?_
            rintro e wa ⟨rfl, hba⟩
            have Ba := bnext Bn hba
            have hJa := hid (hJn.out.below hba)
            have k2 := kN.out (M2.set p (X, DJ)) _ hJa.out Ba
            rw [← hN3.out] at k2
            clear k1
            go_wp2_with fail
            refine k2.mono ?_
            rintro e wb ⟨rfl, hbb⟩
            have Bb := bnext Ba hbb
            have hJb := hid (hJa.out.below hbb)
            clear k2
            go_wp2_with fail
            go_roundw
            case rel => exact ⟨i + 1, (M2.set p (X, DJ)), by omega, by omega, by go_num, by rw [hH3.out], by rw [← hN3.out], hJb, Bb⟩
            case measure => simp [intOf]; omega
          · have dE : (EB == 0) = false := by simpa using hE
            have hJn := hid (hJ4.out.below Cn)
            have Bn := bnext hb Cn
            clear hX8 qA qS qP qP2 q0 q1 hNW
            replace hEB := hid hEB
            replace hE := hid hE
            replace rowb := hid rowb
            have k1 := kH.out M2 _ hJn.out Bn
            rw [← hHe.out] at k1
            go_wp2_with fail
            refine k1.mono ?_
            rintro e wa ⟨rfl, hba⟩
            have Ba := bnext Bn hba
            have hJa := hid (hJn.out.below hba)
            have k2 := kN.out M2 _ hJa.out Ba
            rw [← hNe.out] at k2
            clear k1
            go_wp2_with fail
            refine k2.mono ?_
            rintro e wb ⟨rfl, hbb⟩
            have Bb := bnext Ba hbb
            have hJb := hid (hJa.out.below hbb)
            clear k2
            go_wp2_with fail
            go_roundw
            case rel => exact ⟨i + 1, M2, by omega, by omega, by go_num, by rw [← hHe.out], by rw [← hNe.out], hJb, Bb⟩
            case measure => simp [intOf]; omega
        · have dq : ((q : Int) == 2) = false := by simpa using (by omega : ¬ (q : Int) = 2)
          replace hq2 := hid hq2
          have Cn := C8
          have rowb := rowf.out
          by_cases hE : EF = 0
          · obtain ⟨xx, yy, hXe, hox⟩ := hoF.out hE
            clear hoF
            have hEF2 := hEF.out
            rw [hE] at hEF2 ⊢
            replace hEF2 := hid hEF2
            clear hEF
            replace hXe := hid hXe
            go_upto_region 17 with (refine wpList_store_row rfl 42 (.tmp 14) (.tmp 75) rfl w7.heap.size (jc XF).toArray rfl rfl 42 _ (heap_alloc_new w7 _) (by kernel_rfl) rfl (jc_all _) ?_; rw [alloc_setRow])
            rw [← hw8, ← hgb]
            replace hw8 := hid hw8
            replace hgb := hid hgb
            have hXe2 := hXe.out
            subst hXe2
            have hXid : ((fini J q 0 1099511627776).re xx yy).id = J.id := rfl
            obtain ⟨X, hX⟩ : ∃ X, X = (fini J q 0 1099511627776).re xx yy := ⟨_, rfl⟩
            rw [← hX] at hXid rowb
            have hXdn : X.s.dn = J.s.dn := by rw [hX]; rfl
            have hXon : 0 ≤ X.on ∧ X.on < 4294967296 := by rw [hX]; exact ⟨hon0, hon1⟩
            have hoX : DOwn w8 w5.heap.size (.slice X.s.da X.s.dn X.s.dc) DJ := by rw [hX]; exact owns_low hox (by omega)
            have hJ9 := (hJ4.out.below Cn)
            have hJn := hid (hJ9.put hp hoX hg5 hb.size (by rw [hXdn]; exact hDl) (by rw [hXdn]; exact hDb) hXon.1 hXon.2)
            have Bn := (bnext hb Cn).trans ((setCells_kp (g := g) (jc X) (p * 17) w8).below (base := w.heap.size) (fun i hi => by omega) (bnext hb Cn).size)
            have hth := hid (hJ9.there hp)
            have hidd := hid (hXid.trans hJid.out)
            have hopen : Hid (overB (jobAt (M2.map (·.1)) p).st = false) := by
              have := fin_open hEF2.out.symm
              rw [← hJe.out]
              exact hid this
            have hmp : Hid ((M2.set p (X, DJ)).map (·.1) = (M2.map (·.1)).set p X) := hid (by rw [List.map_set])
            have hpL : Hid (p < (M2.map (·.1)).length) := hid (by rw [List.length_map, hJ4.out.len]; exact hp)
            replace hX := hid hX
            replace hXid := hid hXid
            replace hE := hid hE
            clear hJ9 hoX hXdn hXon hox
            have hCa := jc_all X
            obtain ⟨CC, hCC⟩ : ∃ CC, CC = (jc X).toArray := ⟨_, rfl⟩
            have hCl : CC.toList = jc X := by rw [hCC]
            have hCz : CC.size = 17 := by rw [hCC]; rfl
            have hCi : (Try.prog.info? 42).map (·.size) = some CC.size := by rw [hCz]; kernel_rfl
            have hth' : w8.there g (p * 17) CC.size := by rw [hCz]; exact hth.out
            rw [← hCC] at rowb hCa
            replace hCC := hid hCC
            replace hCz := hid hCz
            replace hth' := hid hth'
            replace hCi := hid hCi
            replace hCl := hid hCl
            replace rowb := hid rowb
            have pk : (p : Int) < (k : Int) := by omega
            have hz0 : (0 : Nat) + p * 17 = p * 17 := Nat.zero_add _
            go_wp2_with (first
              | (refine wpList_store_mid rfl 42 (.tmp 99) (.tmp 98) rfl g (p * 17) CC rfl rfl hth'.out hCi.out hCa ?_)
              | (refine wpList_load_row rfl 42 (.tmp 14) rfl gb rfl 42 CC (0, 0) _ rowb.out Try.underlying42 rfl hCi.out ?_))
            rw [hCl.out]
            generalize hwn : w8.setCells g (p * 17) (jc X) = wn at *
            have hH3 : holdsP D ((M2.set p (X, DJ)).map (·.1)) = true := by rw [hmp.out]; exact holds_set hpL.out hidd.out hopen.out (hHe.out.symm)
            obtain ⟨N3, hN3⟩ : ∃ N3, N3 = neverP D ((M2.set p (X, DJ)).map (·.1)) := ⟨_, rfl⟩
            have k1 := kH.out (M2.set p (X, DJ)) _ hJn.out Bn
            rw [hH3] at k1
            replace hH3 := hid hH3
            replace hN3 := hid hN3
            go_wp2_with fail
            refine k1.mono ?_
            rintro e wa ⟨rfl, hba⟩
            have Ba := bnext Bn hba
            have hJa := hid (hJn.out.below hba)
            have k2 := kN.out (M2.set p (X, DJ)) _ hJa.out Ba
            rw [← hN3.out] at k2
            clear k1
            go_wp2_with fail
            refine k2.mono ?_
            rintro e wb ⟨rfl, hbb⟩
            have Bb := bnext Ba hbb
            have hJb := hid (hJa.out.below hbb)
            clear k2
            go_wp2_with fail
            go_roundw
            case rel => exact ⟨i + 1, (M2.set p (X, DJ)), by omega, by omega, by go_num, by rw [hH3.out], by rw [← hN3.out], hJb, Bb⟩
            case measure => simp [intOf]; omega
          · have dE : (EF == 0) = false := by simpa using hE
            clear hoF
            go_upto_region 18 with (refine wpList_store_row rfl 42 (.tmp 14) (.tmp 75) rfl w7.heap.size (jc XF).toArray rfl rfl 42 _ (heap_alloc_new w7 _) (by kernel_rfl) rfl (jc_all _) ?_; rw [alloc_setRow])
            rw [← hw8, ← hgb]
            replace hw8 := hid hw8
            replace hgb := hid hgb
            have hJn := hid (hJ4.out.below Cn)
            have Bn := bnext hb Cn
            replace hE := hid hE
            replace rowb := hid rowb
            have k1 := kH.out M2 _ hJn.out Bn
            rw [← hHe.out] at k1
            go_wp2_with fail
            refine k1.mono ?_
            rintro e wa ⟨rfl, hba⟩
            have Ba := bnext Bn hba
            have hJa := hid (hJn.out.below hba)
            have k2 := kN.out M2 _ hJa.out Ba
            rw [← hNe.out] at k2
            clear k1
            go_wp2_with fail
            refine k2.mono ?_
            rintro e wb ⟨rfl, hbb⟩
            have Bb := bnext Ba hbb
            have hJb := hid (hJa.out.below hbb)
            clear k2
            go_wp2_with fail
            go_roundw
            case rel => exact ⟨i + 1, M2, by omega, by omega, by go_num, by rw [← hHe.out], by rw [← hNe.out], hJb, Bb⟩
            case measure => simp [intOf]; omega
      · go_wp2_with fail
        refine (kP _).mono ?_
        rintro e w5 ⟨⟨p, hp, rfl⟩, rfl⟩
        have hpM : p < M2.length := by rw [hJ4.out.len]; exact hp
        have hpm : p < (M2.map (·.1)).length := by rw [List.length_map]; exact hpM
        have hJr : Hid (w5.rangeAt g (p * 17) (jc (jobAt (M2.map (·.1)) p))) := hid (by have := (hJ4.out.jo.jat).range hpm; rw [Nat.zero_add] at this; exact this)
        obtain ⟨hDl, hDb, hon0, hon1⟩ := hJ4.out.each M2[p] (List.getElem_mem hpM)
        have hDo := hJ4.out.jo.dep M2[p] (List.getElem_mem hpM)
        have hJid : Hid ((jobAt (M2.map (·.1)) p).id = (jobAt (M2.map (·.1)) p).id) := hid rfl
        obtain ⟨J, hJe⟩ : ∃ J, J = jobAt (M2.map (·.1)) p := ⟨_, rfl⟩
        obtain ⟨DJ, hDe⟩ : ∃ DJ, DJ = M2[p].2 := ⟨_, rfl⟩
        have hfst : M2[p].1 = J := by rw [hJe, ← jobAt_eq hpm]; simp
        rw [hfst, ← hDe] at hDl hDo
        rw [hfst] at hDb hon0 hon1
        rw [← hJe] at hJr
        replace hJid : Hid (J.id = (jobAt (M2.map (·.1)) p).id) := hid (by rw [hJe])
        have hDat : DAt w5 J.s.da DJ := hDo.dat
        replace hJe := hid hJe
        replace hDe := hid hDe
        replace hfst := hid hfst
        replace hDo := hid hDo
        replace x1 := hid x1
        clear x0 hpm
        go_upto_region 12 with fail
        refine Code.wp_mono nrm_of ?_
        refine set_r12 hp hlm x1 hJr (hid ?_)
        intro d60 d61 d62 d63 d64 d65 d66 d67 d68 d69 d70 q w6 hq hb6 hlt6 hrow6
        have kF := finish_any J q 0 1099511627776 DJ w6 hon0 hon1 hDl hDb (hDat.below hb6)
        replace hrow6 := hid hrow6
        replace hDat := hid hDat
        go_wp2_with (refine wpList_load_row rfl 42 (.tmp 12) rfl w5.heap.size rfl 42 (jc J).toArray (0, 0) _ hrow6.out Try.underlying42 rfl (by kernel_rfl) ?_)
        refine kF.mono ?_
        rintro e w7 ⟨hBT, hb7⟩
        clear kF
        have C7 := bnext hb6 hb7
        have hz6 := hb6.size
        have hz7 := hb7.size
        obtain ⟨EF, hEF⟩ : ∃ EF, EF = finE J q 1099511627776 := ⟨_, rfl⟩
        rw [← hEF] at hBT
        replace hEF := hid hEF
        have hrow7 : w7.heap[w5.heap.size]? = some (.cells (jc J).toArray 42 (0, 0)) := by rw [hb7.block _ hlt6]; exact hrow6.out
        -- what Finish told
        have hXF : ∃ XF : Job, e = .returned (.tuple #[.agg (jc XF).toArray, .int .i64 EF]) ∧ (EF = 0 → ∃ xx yy, XF = (fini J q 0 1099511627776).re xx yy ∧ DOwn w7 (w6.heap.size + 1 + 1) (.slice xx J.s.dn yy) DJ) := by
          rcases hBT with ⟨h0, x', y', rfl, h1, h2⟩ | ⟨h0, rfl⟩
          · rw [h0]; exact ⟨_, rfl, fun _ => ⟨x', y', rfl, h2⟩⟩
          · exact ⟨job0, rfl, fun h => absurd h h0⟩
        clear hBT
        obtain ⟨XF, rfl, hXF⟩ := hXF
        have blf := below_lit w7 (.cells (jc XF).toArray 42)
        have rowf := heap_alloc_new w7 (.cells (jc XF).toArray 42)
        have szf := size_lit w7 (.cells (jc XF).toArray 42)
        have C8 := bnext C7 blf
        have hrow8 : (w7.alloc (.cells (jc XF).toArray 42)).heap[w5.heap.size]? = some (.cells (jc J).toArray 42 (0, 0)) := by rw [blf.block _ (by omega)]; exact hrow7
        have hoF := hid (fun h => by obtain ⟨xx, yy, h1, h2⟩ := hXF h; exact (⟨xx, yy, h1, h2.below blf⟩ : ∃ xx yy, XF = (fini J q 0 1099511627776).re xx yy ∧ DOwn (w7.alloc (.cells (jc XF).toArray 42)) (w6.heap.size + 1 + 1) (.slice xx J.s.dn yy) DJ))
        clear hXF hrow7
        obtain ⟨w8, hw8⟩ : ∃ w8, w8 = w7.alloc (.cells (jc XF).toArray 42) := ⟨_, rfl⟩
        rw [← hw8] at hrow8 hoF C8 rowf szf
        replace hrow8 := hid hrow8
        replace rowf := hid rowf
        obtain ⟨gb, hgb⟩ : ∃ gb, gb = w7.heap.size := ⟨_, rfl⟩
        have hgz : gb < w8.heap.size := by omega
        have hgb5 : w5.heap.size < gb := by omega
        rw [← hgb] at rowf
        by_cases hq2 : q = 2
        · subst hq2
          go_upto_region 15 with (refine wpList_store_row rfl 42 (.tmp 14) (.tmp 75) rfl w7.heap.size (jc XF).toArray rfl rfl 42 _ (heap_alloc_new w7 _) (by kernel_rfl) rfl (jc_all _) ?_; rw [alloc_setRow])
          rw [← hw8, ← hgb]
          replace hw8 := hid hw8
          replace hgb := hid hgb
          obtain ⟨A, S, P2, qA, qS, qP, qP2, q0, q1⟩ := sh_facts J.s.nodes
          obtain ⟨NW, hNW⟩ : ∃ NW, NW = (if J.sub < 0 then 0 else J.sub) := ⟨_, rfl⟩
          refine Code.wp_mono nrm_of ?_
          refine set_r15 (D := DJ) (J1 := begun J ((P2 : Int) - 1) NW) (E := beginE J ((P2 : Int) - 1) NW) hrow8 (by omega) rowf hgz (hid rfl) (by omega) (hid qA) (hid qS) (hid qP) (hid qP2) (hid hNW.symm) (hid (fun W hW => begin_any J _ NW DJ W hon0 hon1 q0 q1 hDl hDb (hDat.out.below (bnext C8 hW)))) (hid ?_)
          intro d79 d80 d81 d82 d83 d84 d85 d86 d87 d88 d89 d90 d91 d92 d93 X9 W9 hb9 hX9
          have C9 := below_setRow (g := gb) (bnext C8 hb9) (by omega) (jc X9).toArray
          have rowb : (W9.setRow gb (jc X9).toArray).heap[gb]? = some (.cells (jc X9).toArray 42 (0, 0)) := setRow_heap _ _ _ _ _ _ (by rw [hb9.block _ hgz]; exact rowf.out)
          have hX8 : beginE J ((P2 : Int) - 1) NW = 0 → ∃ xx yy, X9 = (begun J ((P2 : Int) - 1) NW).re xx yy ∧ DOwn (W9.setRow gb (jc X9).toArray) w8.heap.size (.slice xx J.s.dn yy) DJ := fun h => by
            obtain ⟨xx, yy, h1, _, h2⟩ := hX9 h
            exact ⟨xx, yy, h1, own_row h2 hgz _⟩
          clear hX9 hoF
          obtain ⟨EB, hEB⟩ : ∃ EB, EB = beginE J ((P2 : Int) - 1) NW := ⟨_, rfl⟩
          rw [← hEB] at hX8 ⊢
          obtain ⟨w9, hw9⟩ : ∃ w9, w9 = W9.setRow gb (jc X9).toArray := ⟨_, rfl⟩
          rw [← hw9] at C9 rowb hX8 ⊢
          have Cn := C9
          replace hw9 := hid hw9
          by_cases hE : EB = 0
          · obtain ⟨xx, yy, hXe, hox⟩ := hX8 hE
            subst hXe
            rw [hE] at hEB ⊢
            have hXid : ((begun J ((P2 : Int) - 1) NW).re xx yy).id = J.id := rfl
            obtain ⟨X, hX⟩ : ∃ X, X = (begun J ((P2 : Int) - 1) NW).re xx yy := ⟨_, rfl⟩
            rw [← hX] at hXid rowb
            have hXdn : X.s.dn = J.s.dn := by rw [hX]; rfl
            have hXon : 0 ≤ X.on ∧ X.on < 4294967296 := by rw [hX]; exact ⟨q0, q1⟩
            have hoX : DOwn w9 w5.heap.size (.slice X.s.da X.s.dn X.s.dc) DJ := by rw [hX]; exact owns_low hox (by omega)
            have hJ9 := (hJ4.out.below Cn)
            have hJn := hid (hJ9.put hp hoX hg5 hb.size (by rw [hXdn]; exact hDl) (by rw [hXdn]; exact hDb) hXon.1 hXon.2)
            have Bn := (bnext hb Cn).trans ((setCells_kp (g := g) (jc X) (p * 17) w9).below (base := w.heap.size) (fun i hi => by omega) (bnext hb Cn).size)
            have hth := hid (hJ9.there hp)
            have hidd := hid (hXid.trans hJid.out)
            have hopen : Hid (overB (jobAt (M2.map (·.1)) p).st = false) := by
              have := begin_open hEB.symm
              rw [← hJe.out]
              exact hid this
            have hmp : Hid ((M2.set p (X, DJ)).map (·.1) = (M2.map (·.1)).set p X) := hid (by rw [List.map_set])
            have hpL : Hid (p < (M2.map (·.1)).length) := hid (by rw [List.length_map, hJ4.out.len]; exact hp)
            replace hX := hid hX
            replace hXid := hid hXid
            clear hX8 qA qS qP qP2 q0 q1 hNW
            replace hEB := hid hEB
            replace hE := hid hE
            clear hJ9 hoX hXdn hXon hox
            have hCa := jc_all X
            obtain ⟨CC, hCC⟩ : ∃ CC, CC = (jc X).toArray := ⟨_, rfl⟩
            have hCl : CC.toList = jc X := by rw [hCC]
            have hCz : CC.size = 17 := by rw [hCC]; rfl
            have hCi : (Try.prog.info? 42).map (·.size) = some CC.size := by rw [hCz]; kernel_rfl
            have hth' : w9.there g (p * 17) CC.size := by rw [hCz]; exact hth.out
            rw [← hCC] at rowb hCa
            replace hCC := hid hCC
            replace hCz := hid hCz
            replace hth' := hid hth'
            replace hCi := hid hCi
            replace hCl := hid hCl
            replace rowb := hid rowb
            have pk : (p : Int) < (k : Int) := by omega
            have hz0 : (0 : Nat) + p * 17 = p * 17 := Nat.zero_add _
            go_wp2_with (first
              | (refine wpList_store_mid rfl 42 (.tmp 99) (.tmp 98) rfl g (p * 17) CC rfl rfl hth'.out hCi.out hCa ?_)
              | (refine wpList_load_row rfl 42 (.tmp 14) rfl gb rfl 42 CC (0, 0) _ rowb.out Try.underlying42 rfl hCi.out ?_))
            rw [hCl.out]
            generalize hwn : w9.setCells g (p * 17) (jc X) = wn at *
            have hN3 : neverP D ((M2.set p (X, DJ)).map (·.1)) = true := by rw [hmp.out]; exact never_set hpL.out hidd.out hopen.out (hNe.out.symm)
            obtain ⟨H3, hH3⟩ : ∃ H3, H3 = holdsP D ((M2.set p (X, DJ)).map (·.1)) := ⟨_, rfl⟩
            have k1 := kH.out (M2.set p (X, DJ)) _ hJn.out Bn
            rw [← hH3] at k1
            replace hH3 := hid hH3
            replace hN3 := hid hN3
            go_wp2_with fail
            refine k1.mono ?_
            rintro e wa ⟨rfl, hba⟩
            have Ba := bnext Bn hba
            have hJa := hid (hJn.out.below hba)
            have k2 := kN.out (M2.set p (X, DJ)) _ hJa.out Ba
            rw [hN3.out] at k2
            clear k1
            go_wp2_with fail
            refine k2.mono ?_
            rintro e wb ⟨rfl, hbb⟩
            have Bb := bnext Ba hbb
            have hJb := hid (hJa.out.below hbb)
            clear k2
            go_wp2_with fail
            go_roundw
            case rel => exact ⟨i + 1, (M2.set p (X, DJ)), by omega, by omega, by go_num, by rw [← hH3.out], by rw [hN3.out], hJb, Bb⟩
            case measure => simp [intOf]; omega
          · have dE : (EB == 0) = false := by simpa using hE
            have hJn := hid (hJ4.out.below Cn)
            have Bn := bnext hb Cn
            clear hX8 qA qS qP qP2 q0 q1 hNW
            replace hEB := hid hEB
            replace hE := hid hE
            replace rowb := hid rowb
            have k1 := kH.out M2 _ hJn.out Bn
            rw [← hHe.out] at k1
            go_wp2_with fail
            refine k1.mono ?_
            rintro e wa ⟨rfl, hba⟩
            have Ba := bnext Bn hba
            have hJa := hid (hJn.out.below hba)
            have k2 := kN.out M2 _ hJa.out Ba
            rw [← hNe.out] at k2
            clear k1
            go_wp2_with fail
            refine k2.mono ?_
            rintro e wb ⟨rfl, hbb⟩
            have Bb := bnext Ba hbb
            have hJb := hid (hJa.out.below hbb)
            clear k2
            go_wp2_with fail
            go_roundw
            case rel => exact ⟨i + 1, M2, by omega, by omega, by go_num, by rw [← hHe.out], by rw [← hNe.out], hJb, Bb⟩
            case measure => simp [intOf]; omega
        · have dq : ((q : Int) == 2) = false := by simpa using (by omega : ¬ (q : Int) = 2)
          replace hq2 := hid hq2
          have Cn := C8
          have rowb := rowf.out
          by_cases hE : EF = 0
          · obtain ⟨xx, yy, hXe, hox⟩ := hoF.out hE
            clear hoF
            have hEF2 := hEF.out
            rw [hE] at hEF2 ⊢
            replace hEF2 := hid hEF2
            clear hEF
            replace hXe := hid hXe
            go_upto_region 17 with (refine wpList_store_row rfl 42 (.tmp 14) (.tmp 75) rfl w7.heap.size (jc XF).toArray rfl rfl 42 _ (heap_alloc_new w7 _) (by kernel_rfl) rfl (jc_all _) ?_; rw [alloc_setRow])
            rw [← hw8, ← hgb]
            replace hw8 := hid hw8
            replace hgb := hid hgb
            have hXe2 := hXe.out
            subst hXe2
            have hXid : ((fini J q 0 1099511627776).re xx yy).id = J.id := rfl
            obtain ⟨X, hX⟩ : ∃ X, X = (fini J q 0 1099511627776).re xx yy := ⟨_, rfl⟩
            rw [← hX] at hXid rowb
            have hXdn : X.s.dn = J.s.dn := by rw [hX]; rfl
            have hXon : 0 ≤ X.on ∧ X.on < 4294967296 := by rw [hX]; exact ⟨hon0, hon1⟩
            have hoX : DOwn w8 w5.heap.size (.slice X.s.da X.s.dn X.s.dc) DJ := by rw [hX]; exact owns_low hox (by omega)
            have hJ9 := (hJ4.out.below Cn)
            have hJn := hid (hJ9.put hp hoX hg5 hb.size (by rw [hXdn]; exact hDl) (by rw [hXdn]; exact hDb) hXon.1 hXon.2)
            have Bn := (bnext hb Cn).trans ((setCells_kp (g := g) (jc X) (p * 17) w8).below (base := w.heap.size) (fun i hi => by omega) (bnext hb Cn).size)
            have hth := hid (hJ9.there hp)
            have hidd := hid (hXid.trans hJid.out)
            have hopen : Hid (overB (jobAt (M2.map (·.1)) p).st = false) := by
              have := fin_open hEF2.out.symm
              rw [← hJe.out]
              exact hid this
            have hmp : Hid ((M2.set p (X, DJ)).map (·.1) = (M2.map (·.1)).set p X) := hid (by rw [List.map_set])
            have hpL : Hid (p < (M2.map (·.1)).length) := hid (by rw [List.length_map, hJ4.out.len]; exact hp)
            replace hX := hid hX
            replace hXid := hid hXid
            replace hE := hid hE
            clear hJ9 hoX hXdn hXon hox
            have hCa := jc_all X
            obtain ⟨CC, hCC⟩ : ∃ CC, CC = (jc X).toArray := ⟨_, rfl⟩
            have hCl : CC.toList = jc X := by rw [hCC]
            have hCz : CC.size = 17 := by rw [hCC]; rfl
            have hCi : (Try.prog.info? 42).map (·.size) = some CC.size := by rw [hCz]; kernel_rfl
            have hth' : w8.there g (p * 17) CC.size := by rw [hCz]; exact hth.out
            rw [← hCC] at rowb hCa
            replace hCC := hid hCC
            replace hCz := hid hCz
            replace hth' := hid hth'
            replace hCi := hid hCi
            replace hCl := hid hCl
            replace rowb := hid rowb
            have pk : (p : Int) < (k : Int) := by omega
            have hz0 : (0 : Nat) + p * 17 = p * 17 := Nat.zero_add _
            go_wp2_with (first
              | (refine wpList_store_mid rfl 42 (.tmp 99) (.tmp 98) rfl g (p * 17) CC rfl rfl hth'.out hCi.out hCa ?_)
              | (refine wpList_load_row rfl 42 (.tmp 14) rfl gb rfl 42 CC (0, 0) _ rowb.out Try.underlying42 rfl hCi.out ?_))
            rw [hCl.out]
            generalize hwn : w8.setCells g (p * 17) (jc X) = wn at *
            have hN3 : neverP D ((M2.set p (X, DJ)).map (·.1)) = true := by rw [hmp.out]; exact never_set hpL.out hidd.out hopen.out (hNe.out.symm)
            obtain ⟨H3, hH3⟩ : ∃ H3, H3 = holdsP D ((M2.set p (X, DJ)).map (·.1)) := ⟨_, rfl⟩
            have k1 := kH.out (M2.set p (X, DJ)) _ hJn.out Bn
            rw [← hH3] at k1
            replace hH3 := hid hH3
            replace hN3 := hid hN3
            go_wp2_with fail
            refine k1.mono ?_
            rintro e wa ⟨rfl, hba⟩
            have Ba := bnext Bn hba
            have hJa := hid (hJn.out.below hba)
            have k2 := kN.out (M2.set p (X, DJ)) _ hJa.out Ba
            rw [hN3.out] at k2
            clear k1
            go_wp2_with fail
            refine k2.mono ?_
            rintro e wb ⟨rfl, hbb⟩
            have Bb := bnext Ba hbb
            have hJb := hid (hJa.out.below hbb)
            clear k2
            go_wp2_with fail
            go_roundw
            case rel => exact ⟨i + 1, (M2.set p (X, DJ)), by omega, by omega, by go_num, by rw [← hH3.out], by rw [hN3.out], hJb, Bb⟩
            case measure => simp [intOf]; omega
          · have dE : (EF == 0) = false := by simpa using hE
            clear hoF
            go_upto_region 18 with (refine wpList_store_row rfl 42 (.tmp 14) (.tmp 75) rfl w7.heap.size (jc XF).toArray rfl rfl 42 _ (heap_alloc_new w7 _) (by kernel_rfl) rfl (jc_all _) ?_; rw [alloc_setRow])
            rw [← hw8, ← hgb]
            replace hw8 := hid hw8
            replace hgb := hid hgb
            have hJn := hid (hJ4.out.below Cn)
            have Bn := bnext hb Cn
            replace hE := hid hE
            replace rowb := hid rowb
            have k1 := kH.out M2 _ hJn.out Bn
            rw [← hHe.out] at k1
            go_wp2_with fail
            refine k1.mono ?_
            rintro e wa ⟨rfl, hba⟩
            have Ba := bnext Bn hba
            have hJa := hid (hJn.out.below hba)
            have k2 := kN.out M2 _ hJa.out Ba
            rw [← hNe.out] at k2
            clear k1
            go_wp2_with fail
            refine k2.mono ?_
            rintro e wb ⟨rfl, hbb⟩
            have Bb := bnext Ba hbb
            have hJb := hid (hJa.out.below hbb)
            clear k2
            go_wp2_with fail
            go_roundw
            case rel => exact ⟨i + 1, M2, by omega, by omega, by go_num, by rw [← hHe.out], by rw [← hNe.out], hJb, Bb⟩
            case measure => simp [intOf]; omega
      · go_wp2_with fail
        refine (kP _).mono ?_
        rintro e w5 ⟨⟨p, hp, rfl⟩, rfl⟩
        have hpM : p < M2.length := by rw [hJ4.out.len]; exact hp
        have hpm : p < (M2.map (·.1)).length := by rw [List.length_map]; exact hpM
        have hJr : Hid (w5.rangeAt g (p * 17) (jc (jobAt (M2.map (·.1)) p))) := hid (by have := (hJ4.out.jo.jat).range hpm; rw [Nat.zero_add] at this; exact this)
        obtain ⟨hDl, hDb, hon0, hon1⟩ := hJ4.out.each M2[p] (List.getElem_mem hpM)
        have hDo := hJ4.out.jo.dep M2[p] (List.getElem_mem hpM)
        have hJid : Hid ((jobAt (M2.map (·.1)) p).id = (jobAt (M2.map (·.1)) p).id) := hid rfl
        obtain ⟨J, hJe⟩ : ∃ J, J = jobAt (M2.map (·.1)) p := ⟨_, rfl⟩
        obtain ⟨DJ, hDe⟩ : ∃ DJ, DJ = M2[p].2 := ⟨_, rfl⟩
        have hfst : M2[p].1 = J := by rw [hJe, ← jobAt_eq hpm]; simp
        rw [hfst, ← hDe] at hDl hDo
        rw [hfst] at hDb hon0 hon1
        rw [← hJe] at hJr
        replace hJid : Hid (J.id = (jobAt (M2.map (·.1)) p).id) := hid (by rw [hJe])
        have hDat : DAt w5 J.s.da DJ := hDo.dat
        replace hJe := hid hJe
        replace hDe := hid hDe
        replace hfst := hid hfst
        replace hDo := hid hDo
        replace x1 := hid x1
        clear x0 hpm
        go_upto_region 12 with fail
        refine Code.wp_mono nrm_of ?_
        refine set_r12 hp hlm x1 hJr (hid ?_)
        intro d60 d61 d62 d63 d64 d65 d66 d67 d68 d69 d70 q w6 hq hb6 hlt6 hrow6
        have kF := finish_any J q 0 1099511627776 DJ w6 hon0 hon1 hDl hDb (hDat.below hb6)
        replace hrow6 := hid hrow6
        replace hDat := hid hDat
        go_wp2_with (refine wpList_load_row rfl 42 (.tmp 12) rfl w5.heap.size rfl 42 (jc J).toArray (0, 0) _ hrow6.out Try.underlying42 rfl (by kernel_rfl) ?_)
        refine kF.mono ?_
        rintro e w7 ⟨hBT, hb7⟩
        clear kF
        have C7 := bnext hb6 hb7
        have hz6 := hb6.size
        have hz7 := hb7.size
        obtain ⟨EF, hEF⟩ : ∃ EF, EF = finE J q 1099511627776 := ⟨_, rfl⟩
        rw [← hEF] at hBT
        replace hEF := hid hEF
        have hrow7 : w7.heap[w5.heap.size]? = some (.cells (jc J).toArray 42 (0, 0)) := by rw [hb7.block _ hlt6]; exact hrow6.out
        -- what Finish told
        have hXF : ∃ XF : Job, e = .returned (.tuple #[.agg (jc XF).toArray, .int .i64 EF]) ∧ (EF = 0 → ∃ xx yy, XF = (fini J q 0 1099511627776).re xx yy ∧ DOwn w7 (w6.heap.size + 1 + 1) (.slice xx J.s.dn yy) DJ) := by
          rcases hBT with ⟨h0, x', y', rfl, h1, h2⟩ | ⟨h0, rfl⟩
          · rw [h0]; exact ⟨_, rfl, fun _ => ⟨x', y', rfl, h2⟩⟩
          · exact ⟨job0, rfl, fun h => absurd h h0⟩
        clear hBT
        obtain ⟨XF, rfl, hXF⟩ := hXF
        have blf := below_lit w7 (.cells (jc XF).toArray 42)
        have rowf := heap_alloc_new w7 (.cells (jc XF).toArray 42)
        have szf := size_lit w7 (.cells (jc XF).toArray 42)
        have C8 := bnext C7 blf
        have hrow8 : (w7.alloc (.cells (jc XF).toArray 42)).heap[w5.heap.size]? = some (.cells (jc J).toArray 42 (0, 0)) := by rw [blf.block _ (by omega)]; exact hrow7
        have hoF := hid (fun h => by obtain ⟨xx, yy, h1, h2⟩ := hXF h; exact (⟨xx, yy, h1, h2.below blf⟩ : ∃ xx yy, XF = (fini J q 0 1099511627776).re xx yy ∧ DOwn (w7.alloc (.cells (jc XF).toArray 42)) (w6.heap.size + 1 + 1) (.slice xx J.s.dn yy) DJ))
        clear hXF hrow7
        obtain ⟨w8, hw8⟩ : ∃ w8, w8 = w7.alloc (.cells (jc XF).toArray 42) := ⟨_, rfl⟩
        rw [← hw8] at hrow8 hoF C8 rowf szf
        replace hrow8 := hid hrow8
        replace rowf := hid rowf
        obtain ⟨gb, hgb⟩ : ∃ gb, gb = w7.heap.size := ⟨_, rfl⟩
        have hgz : gb < w8.heap.size := by omega
        have hgb5 : w5.heap.size < gb := by omega
        rw [← hgb] at rowf
        by_cases hq2 : q = 2
        · subst hq2
          go_upto_region 15 with (refine wpList_store_row rfl 42 (.tmp 14) (.tmp 75) rfl w7.heap.size (jc XF).toArray rfl rfl 42 _ (heap_alloc_new w7 _) (by kernel_rfl) rfl (jc_all _) ?_; rw [alloc_setRow])
          rw [← hw8, ← hgb]
          replace hw8 := hid hw8
          replace hgb := hid hgb
          obtain ⟨A, S, P2, qA, qS, qP, qP2, q0, q1⟩ := sh_facts J.s.nodes
          obtain ⟨NW, hNW⟩ : ∃ NW, NW = (if J.sub < 0 then 0 else J.sub) := ⟨_, rfl⟩
          refine Code.wp_mono nrm_of ?_
          refine set_r15 (D := DJ) (J1 := begun J ((P2 : Int) - 1) NW) (E := beginE J ((P2 : Int) - 1) NW) hrow8 (by omega) rowf hgz (hid rfl) (by omega) (hid qA) (hid qS) (hid qP) (hid qP2) (hid hNW.symm) (hid (fun W hW => begin_any J _ NW DJ W hon0 hon1 q0 q1 hDl hDb (hDat.out.below (bnext C8 hW)))) (hid ?_)
          intro d79 d80 d81 d82 d83 d84 d85 d86 d87 d88 d89 d90 d91 d92 d93 X9 W9 hb9 hX9
          have C9 := below_setRow (g := gb) (bnext C8 hb9) (by omega) (jc X9).toArray
          have rowb : (W9.setRow gb (jc X9).toArray).heap[gb]? = some (.cells (jc X9).toArray 42 (0, 0)) := setRow_heap _ _ _ _ _ _ (by rw [hb9.block _ hgz]; exact rowf.out)
          have hX8 : beginE J ((P2 : Int) - 1) NW = 0 → ∃ xx yy, X9 = (begun J ((P2 : Int) - 1) NW).re xx yy ∧ DOwn (W9.setRow gb (jc X9).toArray) w8.heap.size (.slice xx J.s.dn yy) DJ := fun h => by
            obtain ⟨xx, yy, h1, _, h2⟩ := hX9 h
            exact ⟨xx, yy, h1, own_row h2 hgz _⟩
          clear hX9 hoF
          obtain ⟨EB, hEB⟩ : ∃ EB, EB = beginE J ((P2 : Int) - 1) NW := ⟨_, rfl⟩
          rw [← hEB] at hX8 ⊢
          obtain ⟨w9, hw9⟩ : ∃ w9, w9 = W9.setRow gb (jc X9).toArray := ⟨_, rfl⟩
          rw [← hw9] at C9 rowb hX8 ⊢
          have Cn := C9
          replace hw9 := hid hw9
          by_cases hE : EB = 0
          · obtain ⟨xx, yy, hXe, hox⟩ := hX8 hE
            subst hXe
            rw [hE] at hEB ⊢
            have hXid : ((begun J ((P2 : Int) - 1) NW).re xx yy).id = J.id := rfl
            obtain ⟨X, hX⟩ : ∃ X, X = (begun J ((P2 : Int) - 1) NW).re xx yy := ⟨_, rfl⟩
            rw [← hX] at hXid rowb
            have hXdn : X.s.dn = J.s.dn := by rw [hX]; rfl
            have hXon : 0 ≤ X.on ∧ X.on < 4294967296 := by rw [hX]; exact ⟨q0, q1⟩
            have hoX : DOwn w9 w5.heap.size (.slice X.s.da X.s.dn X.s.dc) DJ := by rw [hX]; exact owns_low hox (by omega)
            have hJ9 := (hJ4.out.below Cn)
            have hJn := hid (hJ9.put hp hoX hg5 hb.size (by rw [hXdn]; exact hDl) (by rw [hXdn]; exact hDb) hXon.1 hXon.2)
            have Bn := (bnext hb Cn).trans ((setCells_kp (g := g) (jc X) (p * 17) w9).below (base := w.heap.size) (fun i hi => by omega) (bnext hb Cn).size)
            have hth := hid (hJ9.there hp)
            have hidd := hid (hXid.trans hJid.out)
            have hopen : Hid (overB (jobAt (M2.map (·.1)) p).st = false) := by
              have := begin_open hEB.symm
              rw [← hJe.out]
              exact hid this
            have hmp : Hid ((M2.set p (X, DJ)).map (·.1) = (M2.map (·.1)).set p X) := hid (by rw [List.map_set])
            have hpL : Hid (p < (M2.map (·.1)).length) := hid (by rw [List.length_map, hJ4.out.len]; exact hp)
            replace hX := hid hX
            replace hXid := hid hXid
            clear hX8 qA qS qP qP2 q0 q1 hNW
            replace hEB := hid hEB
            replace hE := hid hE
            clear hJ9 hoX hXdn hXon hox
            have hCa := jc_all X
            obtain ⟨CC, hCC⟩ : ∃ CC, CC = (jc X).toArray := ⟨_, rfl⟩
            have hCl : CC.toList = jc X := by rw [hCC]
            have hCz : CC.size = 17 := by rw [hCC]; rfl
            have hCi : (Try.prog.info? 42).map (·.size) = some CC.size := by rw [hCz]; kernel_rfl
            have hth' : w9.there g (p * 17) CC.size := by rw [hCz]; exact hth.out
            rw [← hCC] at rowb hCa
            replace hCC := hid hCC
            replace hCz := hid hCz
            replace hth' := hid hth'
            replace hCi := hid hCi
            replace hCl := hid hCl
            replace rowb := hid rowb
            have pk : (p : Int) < (k : Int) := by omega
            have hz0 : (0 : Nat) + p * 17 = p * 17 := Nat.zero_add _
            go_wp2_with (first
              | (refine wpList_store_mid rfl 42 (.tmp 99) (.tmp 98) rfl g (p * 17) CC rfl rfl hth'.out hCi.out hCa ?_)
              | (refine wpList_load_row rfl 42 (.tmp 14) rfl gb rfl 42 CC (0, 0) _ rowb.out Try.underlying42 rfl hCi.out ?_))
            rw [hCl.out]
            generalize hwn : w9.setCells g (p * 17) (jc X) = wn at *
            obtain ⟨H3, hH3⟩ : ∃ H3, H3 = holdsP D ((M2.set p (X, DJ)).map (·.1)) := ⟨_, rfl⟩
            obtain ⟨N3, hN3⟩ : ∃ N3, N3 = neverP D ((M2.set p (X, DJ)).map (·.1)) := ⟨_, rfl⟩
            have k1 := kH.out (M2.set p (X, DJ)) _ hJn.out Bn
            rw [← hH3] at k1
            replace hH3 := hid hH3
            replace hN3 := hid hN3
            go_wp2_with fail
            refine k1.mono ?_
            rintro e wa ⟨rfl, hba⟩
            have Ba := bnext Bn hba
            have hJa := hid (hJn.out.below hba)
            have k2 := kN.out (M2.set p (X, DJ)) _ hJa.out Ba
            rw [← hN3.out] at k2
            clear k1
            go_wp2_with fail
            refine k2.mono ?_
            rintro e wb ⟨rfl, hbb⟩
            have Bb := bnext Ba hbb
            have hJb := hid (hJa.out.below hbb)
            clear k2
            go_wp2_with fail
            go_roundw
            case rel => exact ⟨i + 1, (M2.set p (X, DJ)), by omega, by omega, by go_num, by rw [← hH3.out], by rw [← hN3.out], hJb, Bb⟩
            case measure => simp [intOf]; omega
          · have dE : (EB == 0) = false := by simpa using hE
            have hJn := hid (hJ4.out.below Cn)
            have Bn := bnext hb Cn
            clear hX8 qA qS qP qP2 q0 q1 hNW
            replace hEB := hid hEB
            replace hE := hid hE
            replace rowb := hid rowb
            have k1 := kH.out M2 _ hJn.out Bn
            rw [← hHe.out] at k1
            go_wp2_with fail
            refine k1.mono ?_
            rintro e wa ⟨rfl, hba⟩
            have Ba := bnext Bn hba
            have hJa := hid (hJn.out.below hba)
            have k2 := kN.out M2 _ hJa.out Ba
            rw [← hNe.out] at k2
            clear k1
            go_wp2_with fail
            refine k2.mono ?_
            rintro e wb ⟨rfl, hbb⟩
            have Bb := bnext Ba hbb
            have hJb := hid (hJa.out.below hbb)
            clear k2
            go_wp2_with fail
            go_roundw
            case rel => exact ⟨i + 1, M2, by omega, by omega, by go_num, by rw [← hHe.out], by rw [← hNe.out], hJb, Bb⟩
            case measure => simp [intOf]; omega
        · have dq : ((q : Int) == 2) = false := by simpa using (by omega : ¬ (q : Int) = 2)
          replace hq2 := hid hq2
          have Cn := C8
          have rowb := rowf.out
          by_cases hE : EF = 0
          · obtain ⟨xx, yy, hXe, hox⟩ := hoF.out hE
            clear hoF
            have hEF2 := hEF.out
            rw [hE] at hEF2 ⊢
            replace hEF2 := hid hEF2
            clear hEF
            replace hXe := hid hXe
            go_upto_region 17 with (refine wpList_store_row rfl 42 (.tmp 14) (.tmp 75) rfl w7.heap.size (jc XF).toArray rfl rfl 42 _ (heap_alloc_new w7 _) (by kernel_rfl) rfl (jc_all _) ?_; rw [alloc_setRow])
            rw [← hw8, ← hgb]
            replace hw8 := hid hw8
            replace hgb := hid hgb
            have hXe2 := hXe.out
            subst hXe2
            have hXid : ((fini J q 0 1099511627776).re xx yy).id = J.id := rfl
            obtain ⟨X, hX⟩ : ∃ X, X = (fini J q 0 1099511627776).re xx yy := ⟨_, rfl⟩
            rw [← hX] at hXid rowb
            have hXdn : X.s.dn = J.s.dn := by rw [hX]; rfl
            have hXon : 0 ≤ X.on ∧ X.on < 4294967296 := by rw [hX]; exact ⟨hon0, hon1⟩
            have hoX : DOwn w8 w5.heap.size (.slice X.s.da X.s.dn X.s.dc) DJ := by rw [hX]; exact owns_low hox (by omega)
            have hJ9 := (hJ4.out.below Cn)
            have hJn := hid (hJ9.put hp hoX hg5 hb.size (by rw [hXdn]; exact hDl) (by rw [hXdn]; exact hDb) hXon.1 hXon.2)
            have Bn := (bnext hb Cn).trans ((setCells_kp (g := g) (jc X) (p * 17) w8).below (base := w.heap.size) (fun i hi => by omega) (bnext hb Cn).size)
            have hth := hid (hJ9.there hp)
            have hidd := hid (hXid.trans hJid.out)
            have hopen : Hid (overB (jobAt (M2.map (·.1)) p).st = false) := by
              have := fin_open hEF2.out.symm
              rw [← hJe.out]
              exact hid this
            have hmp : Hid ((M2.set p (X, DJ)).map (·.1) = (M2.map (·.1)).set p X) := hid (by rw [List.map_set])
            have hpL : Hid (p < (M2.map (·.1)).length) := hid (by rw [List.length_map, hJ4.out.len]; exact hp)
            replace hX := hid hX
            replace hXid := hid hXid
            replace hE := hid hE
            clear hJ9 hoX hXdn hXon hox
            have hCa := jc_all X
            obtain ⟨CC, hCC⟩ : ∃ CC, CC = (jc X).toArray := ⟨_, rfl⟩
            have hCl : CC.toList = jc X := by rw [hCC]
            have hCz : CC.size = 17 := by rw [hCC]; rfl
            have hCi : (Try.prog.info? 42).map (·.size) = some CC.size := by rw [hCz]; kernel_rfl
            have hth' : w8.there g (p * 17) CC.size := by rw [hCz]; exact hth.out
            rw [← hCC] at rowb hCa
            replace hCC := hid hCC
            replace hCz := hid hCz
            replace hth' := hid hth'
            replace hCi := hid hCi
            replace hCl := hid hCl
            replace rowb := hid rowb
            have pk : (p : Int) < (k : Int) := by omega
            have hz0 : (0 : Nat) + p * 17 = p * 17 := Nat.zero_add _
            go_wp2_with (first
              | (refine wpList_store_mid rfl 42 (.tmp 99) (.tmp 98) rfl g (p * 17) CC rfl rfl hth'.out hCi.out hCa ?_)
              | (refine wpList_load_row rfl 42 (.tmp 14) rfl gb rfl 42 CC (0, 0) _ rowb.out Try.underlying42 rfl hCi.out ?_))
            rw [hCl.out]
            generalize hwn : w8.setCells g (p * 17) (jc X) = wn at *
            obtain ⟨H3, hH3⟩ : ∃ H3, H3 = holdsP D ((M2.set p (X, DJ)).map (·.1)) := ⟨_, rfl⟩
            obtain ⟨N3, hN3⟩ : ∃ N3, N3 = neverP D ((M2.set p (X, DJ)).map (·.1)) := ⟨_, rfl⟩
            have k1 := kH.out (M2.set p (X, DJ)) _ hJn.out Bn
            rw [← hH3] at k1
            replace hH3 := hid hH3
            replace hN3 := hid hN3
            go_wp2_with fail
            refine k1.mono ?_
            rintro e wa ⟨rfl, hba⟩
            have Ba := bnext Bn hba
            have hJa := hid (hJn.out.below hba)
            have k2 := kN.out (M2.set p (X, DJ)) _ hJa.out Ba
            rw [← hN3.out] at k2
            clear k1
            go_wp2_with fail
            refine k2.mono ?_
            rintro e wb ⟨rfl, hbb⟩
            have Bb := bnext Ba hbb
            have hJb := hid (hJa.out.below hbb)
            clear k2
            go_wp2_with fail
            go_roundw
            case rel => exact ⟨i + 1, (M2.set p (X, DJ)), by omega, by omega, by go_num, by rw [← hH3.out], by rw [← hN3.out], hJb, Bb⟩
            case measure => simp [intOf]; omega
          · have dE : (EF == 0) = false := by simpa using hE
            clear hoF
            go_upto_region 18 with (refine wpList_store_row rfl 42 (.tmp 14) (.tmp 75) rfl w7.heap.size (jc XF).toArray rfl rfl 42 _ (heap_alloc_new w7 _) (by kernel_rfl) rfl (jc_all _) ?_; rw [alloc_setRow])
            rw [← hw8, ← hgb]
            replace hw8 := hid hw8
            replace hgb := hid hgb
            have hJn := hid (hJ4.out.below Cn)
            have Bn := bnext hb Cn
            replace hE := hid hE
            replace rowb := hid rowb
            have k1 := kH.out M2 _ hJn.out Bn
            rw [← hHe.out] at k1
            go_wp2_with fail
            refine k1.mono ?_
            rintro e wa ⟨rfl, hba⟩
            have Ba := bnext Bn hba
            have hJa := hid (hJn.out.below hba)
            have k2 := kN.out M2 _ hJa.out Ba
            rw [← hNe.out] at k2
            clear k1
            go_wp2_with fail
            refine k2.mono ?_
            rintro e wb ⟨rfl, hbb⟩
            have Bb := bnext Ba hbb
            have hJb := hid (hJa.out.below hbb)
            clear k2
            go_wp2_with fail
            go_roundw
            case rel => exact ⟨i + 1, M2, by omega, by omega, by go_num, by rw [← hHe.out], by rw [← hNe.out], hJb, Bb⟩
            case measure => simp [intOf]; omega
    · rcases hcase with ⟨rfl, rfl⟩ | ⟨rfl, rfl⟩ | ⟨rfl, rfl⟩
      all_goals
        by_cases hlm : i < m
        · have i1 : (i : Int) < (m : Int) := by omega
          have i2 : ¬ (i : Int) < 60 := by omega
          go_wp2_with fail
          refine (kW _).mono ?_
          rintro e w5 ⟨rfl, hb5⟩
          go_wp2_with fail
          go_ret
          exact ⟨rfl, bnext hb hb5⟩
        · have i1 : ¬ (i : Int) < (m : Int) := by omega
          go_wp2_with fail
          refine (kW _).mono ?_
          rintro e w5 ⟨rfl, hb5⟩
          go_wp2_with fail
          go_ret
          exact ⟨rfl, bnext hb hb5⟩

end Go.Proofs.Ytphkdjacladcpaa
