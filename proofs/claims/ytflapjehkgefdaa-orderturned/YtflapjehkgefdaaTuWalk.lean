/- The law OrderTurned. -/
import Derived.Test.YtflapjehkgefdaaTp
namespace Go.Proofs.Ytflapjehkgefdaa
open Go.RowKit Go.Sort Go.Shelf
set_option linter.unusedVariables false
set_option linter.unusedSimpArgs false

set_option maxRecDepth 100000 in
set_option maxHeartbeats 2000000 in
theorem turned_law (ca pa aa qa : Option Addr) (cn cc pn pc ak az qk qc : Nat) (pol : Int) (Z : List Int) (N : List (Prt × List ByteArray)) (A : List Acc) (Q : List Qu) (a : Option Addr) (k c : Nat) (M : List (Job × List Dp)) (ta : Option Addr) (tn tc : Nat) (T : List Int) (w : World)
    (hC0 : CfR w ca pa aa qa cn pn ak az qk Z N A Q) (hn : M.length = k) (hkc : k ≤ c) (hkb : k * 184 ≤ 140737488355328) (hat0 : JAt w a (M.map (·.1))) (hin0 : JIn w M) (hT : T.length = tn) (htn : tn ≤ 4611686018427387904) (hTat0 : IAt w ta T) :
    Calls Try.prog 4 #[.agg #[.slice ca cn cc, .slice pa pn pc, .slice aa ak az, .slice qa qk qc, .int .u8 pol], .slice a k c, .slice ta tn tc] w fun e w' => e = .returned (.bool true) ∧ Below w.heap.size w w' := by
  haveI : Inhabited Job := ⟨job0⟩
  obtain ⟨L, hL⟩ : ∃ L, L = M.map (·.1) := ⟨_, rfl⟩
  have hLn : L.length = k := by rw [hL, List.length_map]; exact hn
  rw [← hL] at hat0
  obtain ⟨CF, hCF⟩ : ∃ CF, CF = #[Value.slice ca cn cc, .slice pa pn pc, .slice aa ak az, .slice qa qk qc, .int .u8 pol] := ⟨_, rfl⟩
  obtain ⟨W1, hW1⟩ : ∃ W1, W1 = w.alloc (.cells CF 28) := ⟨_, rfl⟩
  have b1 : Below w.heap.size w W1 := by rw [hW1]; exact below_lit _ _
  have hrowC : W1.heap[w.heap.size]? = some (.cells CF 28 (0, 0)) := by rw [hW1]; exact heap_alloc_new w _
  have hsz1 : W1.heap.size = w.heap.size + 1 := by rw [hW1, size_lit]
  have hC := hid (hC0.below b1)
  have hat := hid (hat0.below b1)
  have hin := hid (hin0.below b1)
  have hTat := hid (hTat0.below b1)
  have kB := big_any ca pa aa qa cn cc pn pc ak az qk qc pol a k c W1
  rw [← hCF] at kB
  have kQ := hid fun (W : World) (hb : Below W1.heap.size W1 W) (a' : Option Addr) (k' c' : Nat) (L' : List Job) (hn' : L'.length = k') (hk : k' ≤ 30) (hat' : JAt W a' L') => queue_any ca pa aa qa cn cc pn pc ak az qk qc pol Z N A Q a' k' c' L' W (hC.out.below hb) hn' (by omega) hat'
  rw [← hCF] at kQ ⊢
  have hcs : Hid (CF.size = 5) := hid (by rw [hCF]; rfl)
  clear hC0 hat0 hin0 hTat0
  obtain ⟨pr, hpr⟩ : ∃ pr, pr = prQ Z N A Q pol := ⟨_, rfl⟩
  rw [← hpr] at kQ
  replace hpr := hid hpr
  replace hCF := hid hCF
  generalize hgS : w.heap.size = gS at *
  replace hgS := hid hgS
  replace hrowC := hid hrowC
  replace hsz1 := hid hsz1
  replace hn := hid hn
  replace hLn := hid hLn
  replace hL := hid hL
  replace hT := hid hT
  have hjc := hid hkc
  clear hkc
  replace b1 := hid b1
  replace hW1 := hid hW1
  go_enter Try.func4, Try.ntmps4
  go_upto_region 1 with fail
  rw [← hW1.out, hgS.out]
  by_cases hbig : bigB cn pn ak qk k = true
  · rw [hbig] at kB
    go_wp2_with (refine wpList_load_row rfl 28 (.tmp 3) rfl gS rfl 28 CF (0, 0) _ hrowC.out Try.underlying28 rfl (by rw [hcs.out]; kernel_rfl) ?_)
    refine kB.mono ?_
    clear kB
    rintro e w2 ⟨rfl, h2⟩
    have B2 := hid (b1.out.trans (h2.mono (by have := hsz1.out; omega)))
    clear h2
    go_wp2_with fail
    refine (awake_any _).mono ?_
    rintro e w3 ⟨rfl, h3⟩
    have B3 := hid (B2.out.trans (h3.mono (by have := B2.out.size; have := hgS.out; omega)))
    clear h3
    go_wp2
    go_ret
    exact ⟨rfl, B3.out⟩
  · have hbf : bigB cn pn ak qk k = false := by simpa using hbig
    rw [hbf] at kB
    by_cases hk30 : 30 < k
    · have d30 : (30 : Int) < (k : Int) := by omega
      go_wp2_with (refine wpList_load_row rfl 28 (.tmp 3) rfl gS rfl 28 CF (0, 0) _ hrowC.out Try.underlying28 rfl (by rw [hcs.out]; kernel_rfl) ?_)
      refine kB.mono ?_
      clear kB
      rintro e w2 ⟨rfl, h2⟩
      have B2 := hid (b1.out.trans (h2.mono (by have := hsz1.out; omega)))
      clear h2
      go_wp2_with fail
      refine (awake_any _).mono ?_
      rintro e w3 ⟨rfl, h3⟩
      have B3 := hid (B2.out.trans (h3.mono (by have := B2.out.size; have := hgS.out; omega)))
      clear h3
      go_wp2
      go_ret
      exact ⟨rfl, B3.out⟩
    · have d30 : ¬ (30 : Int) < (k : Int) := by omega
      go_wp2_with (refine wpList_load_row rfl 28 (.tmp 3) rfl gS rfl 28 CF (0, 0) _ hrowC.out Try.underlying28 rfl (by rw [hcs.out]; kernel_rfl) ?_)
      refine kB.mono ?_
      clear kB
      rintro e w2 ⟨rfl, h2⟩
      have hg2 := hid h2
      clear h2
      go_wp2_with fail
      go_loopw [30] (fun i wr => ∃ j : Nat, j ≤ k ∧ i = .int .i64 (j : Int) ∧ Hid (Unlike (·.id) (L.take j)) ∧ Below w2.heap.size w2 wr) (fun i _ => k - (intOf i).toNat)
      case atStart => exact ⟨0, Nat.zero_le _, rfl, hid List.Pairwise.nil, Below.refl _ _⟩
      case round =>
        obtain ⟨j, hj, rfl, hun, hb⟩ := hrel
        have hbW : Hid (Below W1.heap.size W1 wr) := hid (hg2.out.trans (hb.mono hg2.out.size))
        by_cases hlt : j < k
        · have hjL : j < L.length := by rw [hLn.out]; exact hlt
          obtain ⟨b, o, e⟩ := hat.out.place (by omega)
          subst e
          have hcj := hid ((hat.out.below hbW.out).range hjL)
          have hnext2 : Hid (L.take (j + 1) = L.take j ++ [jobAt L j]) := hid (by rw [take_more hjL, jobAt_eq hjL])
          have hget : Hid (∀ u, u < j → jobAt (L.take j) u = jobAt L u) := hid fun u hu => by
            rw [← jobAt_eq (by rw [List.length_take]; omega), ← jobAt_eq (by omega)]; simp
          have htl : Hid ((L.take j).length = j) := hid (by rw [List.length_take]; omega)
          generalize jobAt L j = J at *
          have hrow := hid (heap_alloc_new wr (.cells (jc J).toArray 40))
          have bl := hid (below_lit wr (.cells (jc J).toArray 40))
          obtain ⟨X1, hX1⟩ : ∃ X1, X1 = wr.alloc (.cells (jc J).toArray 40) := ⟨_, rfl⟩
          have hsX1 : X1.heap.size = wr.heap.size + 1 := by rw [hX1, size_lit]
          have hB1 := hid (hb.trans (bl.out.mono hb.size))
          rw [← hX1] at hrow bl hB1
          have s1 : (0 : Int) ≤ (j : Int) := by omega
          have s3 : ((j : Int)).toNat = j := by omega
          go_upto_region 6 with (first
            | (refine wpList_load_mid rfl 40 (.tmp 33) rfl b (o + j * 17) rfl (jc J) _ hcj.out Try.underlying40 rfl (by kernel_rfl) ?_)
            | (refine wpList_store_row rfl 40 (.tmp 8) (.tmp 34) rfl wr.heap.size (jc J).toArray rfl rfl 40 _ (heap_alloc_new wr _) (by kernel_rfl) rfl (jc_all _) ?_; rw [alloc_setRow]))
          rw [← hX1]
          replace hX1 := hid hX1
          have hg8 : wr.heap.size < X1.heap.size := by omega
          generalize hg8' : wr.heap.size = g8 at *
          replace hg8' := hid hg8'
          replace hsX1 := hid hsX1
          have jc1 : (j : Int) ≤ (c : Int) := by have := hjc.out; omega
          go_wp2_with fail
          go_loopw [39] (fun i wx => ∃ u : Nat, u ≤ j ∧ i = .int .i64 (u : Int) ∧ Hid (∀ u', u' < u → (jobAt L u').id ≠ J.id) ∧ Below X1.heap.size X1 wx) (fun i _ => j - (intOf i).toNat)
          case atStart => exact ⟨0, Nat.zero_le _, rfl, hid fun u' h => by omega, Below.refl _ _⟩
          case round =>
            rename World => wx
            obtain ⟨u, hu, rfl, hno, hbx⟩ := hrel
            have hrx := hid (show wx.heap[g8]? = some (.cells (jc J).toArray 40 (0, 0)) by rw [hbx.block _ hg8]; exact hrow.out)
            have hBx := hid (hB1.out.trans (hbx.mono hB1.out.size))
            have hgx : g8 < wx.heap.size := by have := hbx.size; omega
            by_cases hlt2 : u < j
            · have huL : u < L.length := by omega
              have hcu := hid ((hat.out.below (hg2.out.trans (hBx.out.mono hg2.out.size))).range huL)
              generalize hJU : jobAt L u = JU at *
              replace hJU := hid hJU
              have bl2 := below_lit wx (.cells (jc JU).toArray 40)
              have hrow2 := heap_alloc_new wx (.cells (jc JU).toArray 40)
              have z0 : (wx.alloc (.cells (jc JU).toArray 40)).cell? ⟨g8, 0, none⟩ = some (.int .i64 J.id) := stay bl2 (row_cell hrx.out 0 _ rfl)
              have z1 : (wx.alloc (.cells (jc JU).toArray 40)).cell? ⟨wx.heap.size, 0, none⟩ = some (.int .i64 JU.id) := row_cell hrow2 0 _ rfl
              have hb2 := hid (hbx.trans (bl2.mono hbx.size))
              have hb2' := hid (hBx.out.trans (bl2.mono hBx.out.size))
              replace hrow2 := hid hrow2
              clear bl2
              by_cases hid0 : J.id = JU.id
              · have dd : (J.id == JU.id) = true := beq_iff_eq.2 hid0
                replace hid0 := hid hid0
                go_wp2_with (first
                  | (refine wpList_load_mid rfl 40 (.tmp 41) rfl b (o + u * 17) rfl (jc JU) _ hcu.out Try.underlying40 rfl (by kernel_rfl) ?_)
                  | (refine wpList_store_row rfl 40 (.tmp 10) (.tmp 42) rfl wx.heap.size (jc JU).toArray rfl rfl 40 _ (heap_alloc_new wx _) (by kernel_rfl) rfl (jc_all _) ?_; rw [alloc_setRow]))
                refine (awake_any _).mono ?_
                rintro e w3 ⟨rfl, h3⟩
                have B3 : Below gS w w3 := b1.out.trans ((hg2.out.trans ((hb2'.out.trans (h3.mono hb2'.out.size)).mono hg2.out.size)).mono (by have := hsz1.out; omega))
                clear h3
                go_wp2
                go_ret
                exact ⟨rfl, B3⟩
              · have dd : (J.id == JU.id) = false := beq_eq_false_iff_ne.2 hid0
                have hno2 : Hid (∀ u', u' < u + 1 → (jobAt L u').id ≠ J.id) := hid fun u' h => by
                  rcases Nat.lt_or_ge u' u with h1 | h1
                  · exact hno.out u' h1
                  · have : u' = u := by omega
                    subst this
                    rw [hJU.out]; exact fun e => hid0 e.symm
                replace hid0 := hid hid0
                go_wp2_with (first
                  | (refine wpList_load_mid rfl 40 (.tmp 41) rfl b (o + u * 17) rfl (jc JU) _ hcu.out Try.underlying40 rfl (by kernel_rfl) ?_)
                  | (refine wpList_store_row rfl 40 (.tmp 10) (.tmp 42) rfl wx.heap.size (jc JU).toArray rfl rfl 40 _ (heap_alloc_new wx _) (by kernel_rfl) rfl (jc_all _) ?_; rw [alloc_setRow]))
                go_roundw
                case rel => exact ⟨u + 1, by omega, by go_num, hno2, hb2.out⟩
                case measure => simp [intOf]; omega
            · have hue : u = j := by omega
              have hun2 : Hid (Unlike (·.id) (L.take (j + 1))) := hid (by
                rw [hnext2.out]
                unfold Unlike
                rw [List.pairwise_append]
                refine ⟨hun.out, by simp, fun x hx y hy => ?_⟩
                simp at hy
                subst hy
                obtain ⟨i, hi, rfl⟩ := List.getElem_of_mem hx
                have hij : i < j := by rw [htl.out] at hi; exact hi
                rw [jobAt_eq hi, hget.out i hij]
                exact hno.out i (by omega))
              have d9 : ¬ (u : Int) < (j : Int) := by omega
              replace hue := hid hue
              go_wp2_with fail
              go_roundw
              case rel => exact ⟨j + 1, by omega, by go_num, hun2, hBx.out⟩
              case measure => simp [intOf]; omega
        · have hje : j = k := by omega
          subst hje
          have hf : Hid (L.take j = L) := hid (by rw [← hLn.out, List.take_length])
          rw [hf.out] at hun
          have hatw := hat.out.below hbW.out
          have kCJ := copyJ a j c M wr hn.out hkb (by rw [← hL.out]; exact hatw) (hin.out.below hbW.out)
          clear hatw
          go_wp2_with fail
          refine kCJ.mono ?_
          clear kCJ
          rintro e w4 ⟨ra, rc, M', rfl, hrc, hJO, hRe, h4⟩
          obtain ⟨L0, hL0⟩ : ∃ L0, L0 = M'.map (·.1) := ⟨_, rfl⟩
          have hL0n : Hid (L0.length = j) := hid (by rw [hL0, List.length_map, reJ_len hRe]; exact hn.out)
          have hu0 : Hid (Unlike (·.id) L0) := hid (by rw [hL0]; exact unlike_re hRe (by rw [← hL.out]; exact hun.out))
          have hq0 : Hid (∀ q, IsQ pr (·.id) pend L0 q ↔ IsQ pr (·.id) pend L q) := hid fun q => by rw [hL0, hL.out, hpr.out]; exact isq_re hRe
          have hown := hJO.own
          rw [← hL0] at hown
          have hbase : Hid (w2.heap.size ≤ wr.heap.size) := hid hb.size
          have hB4 := hid (hbW.out.trans (h4.mono hbW.out.size))
          have hP0 : Hid (PJs wr.heap.size wr w4 ra j L0 w4) := hid (by
            refine ⟨h4, ?_⟩
            by_cases hk0 : j = 0
            · exact Or.inl hk0
            · right
              have hle := hown.2
              rcases hle with ⟨e, hz⟩ | ⟨g, cap, cur, e, hb1, hh, _⟩
              · exfalso
                injection e with e1 e2 e3
                omega
              · have e2 : ra = some ⟨g, 0, none⟩ := by injection e
                have hown2 := hown
                rw [e2] at hown2
                have hH := ownj_holds hown2
                exact ⟨g, L0.toArray, e2, hb1, by simpa using hL0n.out, by simp, SWK.start hH⟩)
          have hRow : Hid (∀ g, ra = some ⟨g, 0, none⟩ → RowK jc 17 w4 g 0 L0.toArray) := hid fun g e => by
            subst e
            exact ⟨jc_len, fun x v hv => jc_one x v hv, ownj_holds hown, (owns_blk hown).2⟩
          clear hJO hown hRe h4 hun
          generalize hbs : wr.heap.size = bs at *
          replace hbs := hid hbs
          go_wp2_with fail
          go_loopw [12, 13, 14] (fun i x y wr2 => ∃ t : Nat, t ≤ 60 ∧ i = .int .i64 (t : Int) ∧ Hid (PJs bs wr w4 ra j L0 wr2)) (fun i _ _ _ => 60 - (intOf i).toNat)
          case atStart => exact ⟨0, by omega, rfl, hP0⟩
          case round =>
            rename World => wr2
            obtain ⟨t, ht, rfl, hP⟩ := hrel
            go_upto_region 15 with fail
            go_cut [65] (fun s wx => ∃ bb : Bool, s = .bool bb ∧ Hid (bb = decide (t < tn ∧ t < 60 ∧ 0 < j)) ∧ wx = wr2)
            case first =>
              by_cases c1 : t < tn
              · have dd1 : (t : Int) < (tn : Int) := by omega
                have dd1' : decide ((t : Int) < (tn : Int)) = true := decide_eq_true dd1
                by_cases c2 : t < 60
                · have dd2 : (t : Int) < 60 := by omega
                  have dd2' : decide ((t : Int) < 60) = true := decide_eq_true dd2
                  by_cases c3 : 0 < j
                  · have dd3 : (0 : Int) < (j : Int) := by omega
                    have dd3' : decide ((0 : Int) < (j : Int)) = true := decide_eq_true dd3
                    have hbb : Hid (true = decide (t < tn ∧ t < 60 ∧ 0 < j)) := hid (decide_eq_true ⟨c1, c2, c3⟩).symm
                    go_wp2_with fail
                    go_meet
                    exact ⟨true, rfl, hbb, rfl⟩
                  · have dd3 : ¬ (0 : Int) < (j : Int) := by omega
                    have dd3' : decide ((0 : Int) < (j : Int)) = false := decide_eq_false dd3
                    have hbb : Hid (false = decide (t < tn ∧ t < 60 ∧ 0 < j)) := hid (decide_eq_false fun h => c3 h.2.2).symm
                    go_wp2_with fail
                    go_meet
                    exact ⟨false, rfl, hbb, rfl⟩
                · have dd2 : ¬ (t : Int) < 60 := by omega
                  have dd2' : decide ((t : Int) < 60) = false := decide_eq_false dd2
                  have hbb : Hid (false = decide (t < tn ∧ t < 60 ∧ 0 < j)) := hid (decide_eq_false fun h => c2 h.2.1).symm
                  go_wp2_with fail
                  go_meet
                  exact ⟨false, rfl, hbb, rfl⟩
              · have dd1 : ¬ (t : Int) < (tn : Int) := by omega
                have dd1' : decide ((t : Int) < (tn : Int)) = false := decide_eq_false dd1
                have hbb : Hid (false = decide (t < tn ∧ t < 60 ∧ 0 < j)) := hid (decide_eq_false fun h => c1 h.1).symm
                go_wp2_with fail
                go_meet
                exact ⟨false, rfl, hbb, rfl⟩
            case rest =>
            obtain ⟨bb, rfl, hbb, hwx⟩ := hcut
            subst hwx
            cases bb with
            | true =>
              obtain ⟨c1, c2, c3⟩ := of_decide_eq_true hbb.out.symm
              obtain ⟨hbP, hP2⟩ := hP.out
              have hP3 : Hid (∃ (g : Nat) (d : Array Job), ra = some ⟨g, 0, none⟩ ∧ bs ≤ g ∧ d.size = j ∧ d.toList.Perm L0 ∧ SWK jc 17 w4 g 0 d wc) := hid (hP2.resolve_left (by omega))
              obtain ⟨g, d, e, hgb, hds, hdp, hS⟩ := hP3.out
              subst e
              have R := hid (hRow.out g rfl)
              have hds0 : Hid (d.size = L0.toArray.size) := hid (by rw [hds]; simpa using hL0n.out.symm)
              have hH := hid (hS.holds R.out.hblk R.out.hH hds0.out)
              have htT : t < T.length := by rw [hT.out]; exact c1
              obtain ⟨tb, tq, e⟩ := hTat.out.place (by omega)
              subst e
              have x0 := (hTat.out.below (hbW.out.trans (hbP.mono (by have := hbs.out; have := hbW.out.size; omega)))).one htT
              obtain ⟨x, hx⟩ : ∃ x : Nat, x = t % j := ⟨_, rfl⟩
              have hxj : x < j := by rw [hx]; exact Nat.mod_lt _ c3
              have hxz : (t : Int).tmod (j : Int) = (x : Int) := by rw [hx]; exact_mod_cast (Int.ofNat_tmod t j).symm
              replace hx := hid hx
              generalize itAt T t = tv at *
              have hpk := fun q => pickp_any tv j (wc.drewN q) c3 (by omega)
              have hyj := pickP_lt tv c3
              generalize pickP tv j = y at *
              replace hpk := hid hpk
              have hne : ¬ (j : Int) = 0 := by omega
              have hjz : ((j : Int) == 0) = false := beq_eq_false_iff_ne.2 hne
              clear hP2
              replace hS := hid hS
              replace hdp := hid hdp
              replace hbP := hid hbP
              replace hds := hid hds
              go_wp2_with fail
              go_quiet (first | (go_at_call 10; exact Calls.quiet_of_same (hpk.out _)))
              have hS6 := hid (hS.out.drewN nq)
              have hbP6 := hid (below_drewN hbP.out nq)
              clear hS hbP
              generalize wc.drewN nq = W6 at *
              have hHd := hS6.out.drew.holds R.out.hblk R.out.hH hds0.out
              have hrg := hid (fun i (hi : i < j) => range_of hHd (i := i) (by have := hds.out; omega))
              have ht1 := hid (there_of hHd (i := x) (by have := hds.out; omega))
              have ht2 := hid (there_set hHd (x := x) (y := y) (by have := hds.out; omega) (by have := hds.out; omega) d[y]!)
              have hnew := hid (pj_step hbP6.out hgb hds.out hdp.out hS6.out R.out hxj hyj)
              clear hHd
              go_upto_region 18 with fail
              refine Code.wp_mono nrm_of ?_
              refine tu_r18 hxj hyj hrg ht1 ht2 (hid ?_)
              intro d79 d80 d81 d82 d83 d84 d85 d86 d87 d88 d89 d90 d91 d92
              generalize (W6.drew.setCells g (x * 17) (jc d[y]!)).setCells g (y * 17) (jc d[x]!) = W7 at hnew ⊢
              clear hrg ht1 ht2
              dsimp only
              go_wp2_with fail
              go_roundw
              case rel => exact ⟨t + 1, by omega, by go_num, hnew⟩
              case measure => simp [intOf]; omega
            | false =>
              obtain ⟨L2, hL2n, hL2p, hL2at⟩ := pj_end hP.out hRow.out (by simpa using hL0n.out) hL0n.out
              have hB5 := hid (hbW.out.trans (hP.out.1.mono (by have := hbs.out; have := hbW.out.size; omega)))
              have hu2 := hid (unlike_perm (·.id) hu0.out hL2p.symm)
              have kq1 := kQ.out wc hB5.out a j c L hLn.out (by omega) (hat.out.below hB5.out)
              have hrC := hid (show wc.heap[gS]? = some (.cells CF 28 (0, 0)) by rw [hB5.out.block _ (by have := hsz1.out; omega)]; exact hrowC.out)
              have hrcj := hid hrc
              clear hrc
              replace hL2n := hid hL2n
              replace hL2p := hid hL2p
              replace hL2at := hid hL2at
              go_wp2_with (refine wpList_load_row rfl 28 (.tmp 3) rfl gS rfl 28 CF (0, 0) _ hrC.out Try.underlying28 rfl (by rw [hcs.out]; kernel_rfl) ?_)
              refine kq1.mono ?_
              clear kq1
              rintro e v1 ⟨ra1, rc1, q, rfl, hq, hqa, hqc, h1⟩
              have hB6 := hid (hB5.out.trans (h1.mono hB5.out.size))
              have kq2 := kQ.out v1 hB6.out ra j rc L2 hL2n.out (by omega) (hL2at.out.below h1)
              have hrC1 := hid (show v1.heap[gS]? = some (.cells CF 28 (0, 0)) by rw [hB6.out.block _ (by have := hsz1.out; omega)]; exact hrowC.out)
              have hLat1 := hid (hL2at.out.below h1)
              replace hq := hid hq
              replace hqa := hid hqa
              clear h1 hrC hL2at
              go_wp2_with (refine wpList_load_row rfl 28 (.tmp 3) rfl gS rfl 28 CF (0, 0) _ hrC1.out Try.underlying28 rfl (by rw [hcs.out]; kernel_rfl) ?_)
              refine kq2.mono ?_
              clear kq2
              rintro e v2 ⟨ra2, rc2, q2, rfl, hq2, hqa2, hqc2, h2⟩
              have hqe : q2 = q := IsQ.uniq pr (·.id) hq.out ((hq0.out q2).1 (IsQ.perm pr (·.id) hq2 hL2p.out))
              subst hqe
              have hB7 := hid (hB6.out.trans (h2.mono hB6.out.size))
              have hLat2 := hid (hLat1.out.below h2)
              have hqa1 := hid (hqa.out.below h2)
              have hqlen : q2.length = (L.filter pend).length := IsQ.len pr (·.id) hq.out
              have hlf : (L.filter pend).length ≤ j := by have h1 := List.length_filter_le pend L; have := hLn.out; omega
              obtain ⟨n, hn2⟩ : ∃ n, q2.length = n := ⟨_, rfl⟩
              have hnj : n ≤ j := by omega
              have kS := sameints ra1 ra2 n rc1 rc2 q2 v2 hn2 (by omega) hqa1.out hqa2
              rw [hn2] at hqc hqc2 ⊢
              replace hqlen := hid hqlen
              replace hlf := hid hlf
              replace hn2 := hid hn2
              clear h2 hqa hqa2 hLat1
              go_wp2_with fail
              refine kS.mono ?_
              clear kS
              rintro e v3 ⟨rfl, h3⟩
              have hB8 := hid (hB7.out.trans (h3.mono hB7.out.size))
              have hLat3 := hid (hLat2.out.below h3)
              have hqa3 := hid (hqa1.out.below h3)
              clear h3 hLat2 hqa1
              by_cases hk0 : j = 0
              · have z1 : ((j : Int) == 0) = true := by rw [hk0]; rfl
                have z1' : (j : Int) = 0 := by omega
                have hn0 : n = 0 := by omega
                have z2 : ((n : Int) == 0) = true := by rw [hn0]; rfl
                have z2' : (n : Int) = 0 := by omega
                replace hk0 := hid hk0
                replace hn0 := hid hn0
                replace z1' := hid z1'
                replace z2' := hid z2'
                go_wp2_with fail
                refine (awake_any _).mono ?_
                rintro e v4 ⟨rfl, h4⟩
                have B9 : Below gS w v4 := b1.out.trans ((hB8.out.trans (h4.mono hB8.out.size)).mono (by have := hsz1.out; omega))
                clear h4
                go_wp2
                go_ret
                exact ⟨rfl, B9⟩
              · have z1 : ((j : Int) == 0) = false := beq_eq_false_iff_ne.2 (by omega)
                have z1' : ¬ (j : Int) = 0 := by omega
                obtain ⟨x, Lt, hxL⟩ : ∃ x Lt, L2 = x :: Lt := by
                  cases hh : L2 with
                  | nil => exfalso; have := hL2n.out; rw [hh] at this; exact hk0 this.symm
                  | cons x Lt => exact ⟨x, Lt, rfl⟩
                have hless := hid (IsQ.less pr (·.id) (x := x) (L := Lt) (q := q2) (by rw [← hxL]; exact IsQ.perm pr (·.id) ((hq0.out q2).2 hq.out) hL2p.out.symm) (by rw [← hxL]; exact hu2.out))
                have hj1 : 1 ≤ j := by omega
                replace hk0 := hid hk0
                obtain ⟨b, o, e⟩ := hLat3.out.place (by have := hL2n.out; omega)
                subst e
                obtain ⟨i3, hi3, hy0, hy1, hy2⟩ := info_parts info3
                obtain ⟨xi, hxi⟩ : ∃ xi, xi = x.id := ⟨_, rfl⟩
                have hx0 : Hid (∀ W, Below v3.heap.size v3 W → W.cell? ⟨b, o, none⟩ = some (.int .i64 xi)) := hid fun W hW => by
                  have h0 := (hLat3.out.below hW).one (i := 0) (by have := hL2n.out; omega)
                  rw [Nat.zero_mul, Nat.add_zero] at h0
                  rw [h0.1, hxi, hxL]
                  rfl
                rw [← hxi] at hless
                replace hxi := hid hxi
                replace hxL := hid hxL
                have hj0 : (0 : Int) < (j : Int) := by omega
                go_wp2_with fail
                go_loopw [16, 113] (fun v i wy => ∃ t : Nat, t ≤ n ∧ i = .int .i64 (t : Int) ∧ Hid (IOwn wy v3.heap.size v ((q2.take t).filter (fun z => decide (z ≠ xi)))) ∧ Below v3.heap.size v3 wy) (fun _ i _ => n - (intOf i).toNat)
                case atStart => exact ⟨0, Nat.zero_le _, rfl, hid (IOwn.nil _ _), Below.refl _ _⟩
                case round =>
                  rename World => wy
                  obtain ⟨t', ht', rfl, hown2, hby⟩ := hrel
                  obtain ⟨xa, xc, e, hxc⟩ := owns_form hown2.out
                  subst e
                  have hlenI : Hid (((q2.take t').filter (fun z => decide (z ≠ xi))).length ≤ t') := hid (by have h1 := List.length_filter_le (fun z => decide (z ≠ xi)) (q2.take t'); have h2 := List.length_take (i := t') (l := q2); omega)
                  by_cases hlt2 : t' < n
                  · have htq : t' < q2.length := by rw [hn2.out]; exact hlt2
                    have c0 := hx0.out wy hby
                    obtain ⟨b5, o5, e⟩ := hqa3.out.place (by omega)
                    subst e
                    have y0 := (hqa3.out.below hby).one htq
                    have hnx : Hid ((q2.take (t' + 1)).filter (fun z => decide (z ≠ xi)) = (q2.take t').filter (fun z => decide (z ≠ xi)) ++ (if itAt q2 t' ≠ xi then [itAt q2 t'] else [])) := hid (by
                      rw [take_more htq, List.filter_append, itAt_eq htq, List.filter_cons]
                      by_cases hh : itAt q2 t' ≠ xi
                      · rw [if_pos (by simpa using hh), if_pos hh]; rfl
                      · rw [if_neg (by simpa using hh), if_neg hh]; rfl)
                    generalize (q2.take t').filter (fun z => decide (z ≠ xi)) = I at *
                    generalize itAt q2 t' = y at *
                    obtain ⟨m, hm⟩ : ∃ m, I.length = m := ⟨_, rfl⟩
                    rw [hm] at hxc hlenI ⊢
                    have hmt := hlenI.out
                    replace hm := hid hm
                    by_cases hyx : y = xi
                    · have e1 : (y == xi) = true := beq_iff_eq.2 hyx
                      have hnx2 : Hid ((q2.take (t' + 1)).filter (fun z => decide (z ≠ xi)) = I) := hid (by rw [hnx.out, if_neg (by simpa using hyx), List.append_nil])
                      replace hyx := hid hyx
                      have hown4 : Hid (IOwn wy v3.heap.size (.slice xa m xc) I) := hid (by have := hown2.out; rwa [hm.out] at this)
                      go_wp2_with fail
                      go_roundw
                      case rel => exact ⟨t' + 1, by omega, by go_num, hid (by rw [hnx2.out]; exact hown4.out), hby⟩
                      case measure => simp [intOf]; omega
                    · have e1 : (y == xi) = false := beq_eq_false_iff_ne.2 hyx
                      have hnx2 : Hid ((q2.take (t' + 1)).filter (fun z => decide (z ≠ xi)) = I ++ [y]) := hid (by rw [hnx.out, if_pos hyx])
                      replace hyx := hid hyx
                      have bl2 := below_lit wy (.cells #[.int .i64 y] 3)
                      have B6 := hby.trans (bl2.mono hby.size)
                      have hcat := hid (cat_lit wy 3 [.int .i64 y] #[.int .i64 y] rfl)
                      have hone := hid (one_I y)
                      have hown5' : (wy.alloc (.cells #[.int .i64 y] 3)).ownsRow v3.heap.size 3 1 (.slice xa m xc) m (I.flatMap ic) := by
                        have := hown2.out.below bl2
                        unfold IOwn at this
                        rw [hm.out] at this
                        exact this
                      replace hown5' := hid hown5'
                      clear bl2
                      go_wp2_with (at_builtin; refine Hid.out ?_)
                      refine wpList_cat _ rfl (.tmp 123) (.tmp 125) 22 rfl v3.heap.size 3 i3 _ 1 8 Try.underlying22 hi3 hy0 hy1 hy2 rfl (by omega) _ _ _ rfl hown5'.out (some ⟨wy.heap.size, 0, none⟩) 1 1 [.int .i64 y] rfl rfl hcat.out hone.out (by unfold maxLen; omega) (by omega) B6.size ?_
                      intro v' w9 ho4 hg4 hv4
                      have hown6 : IOwn w9 v3.heap.size v' (I ++ [y]) := by
                        unfold IOwn
                        rw [List.length_append, hm.out]
                        simp only [List.flatMap_append]
                        exact ho4
                      have B7 : Below v3.heap.size v3 w9 := Below.grown B6 hg4 B6.size (fun j hj => (hown5'.out.lt _ hj).1)
                      replace hown6 := hid hown6
                      clear ho4 hg4 hv4 hcat
                      go_wp2_with fail
                      go_roundw
                      case rel => exact ⟨t' + 1, by omega, by go_num, hid (by rw [hnx2.out]; exact hown6.out), B7⟩
                      case measure => simp [intOf]; omega
                  · have hte : t' = n := by omega
                    have hf2 : Hid (q2.take t' = q2) := hid (by rw [hte, ← hn2.out, List.take_length])
                    rw [hf2.out] at hown2 hlenI hxc ⊢
                    obtain ⟨WN, hWN⟩ : ∃ WN, WN = q2.filter (fun z => decide (z ≠ xi)) := ⟨_, rfl⟩
                    rw [← hWN] at hown2 hlenI hxc hless ⊢
                    obtain ⟨m, hm⟩ : ∃ m, WN.length = m := ⟨_, rfl⟩
                    rw [hm] at hown2 hxc hlenI ⊢
                    have d9 : ¬ (t' : Int) < (n : Int) := by omega
                    replace hte := hid hte
                    replace hWN := hid hWN
                    replace hm := hid hm
                    go_upto_region 31 with fail
                    have hgSy : gS < wy.heap.size := by have := hby.size; have := hB8.out.size; have := hsz1.out; omega
                    have hB9 := hid (hB8.out.trans (hby.mono hB8.out.size))
                    have hrCy := hid (show wy.heap[gS]? = some (.cells CF 28 (0, 0)) by rw [hB9.out.block _ (by have := hsz1.out; omega)]; exact hrowC.out)
                    have hWat := hid hown2.out.iat
                    have hLtn : Hid (Lt.length = j - 1) := hid (by have := hL2n.out; rw [hxL.out, List.length_cons] at this; omega)
                    obtain ⟨rz, hrz⟩ : ∃ rz : Option Addr, rz = (if rc = 1 then some ⟨b, o, none⟩ else some ⟨b, o + 17, none⟩) := ⟨_, rfl⟩
                    have hLtat : Hid (JAt wy (rz) Lt) := hid (by
                      by_cases h1 : rc = 1
                      · have : Lt = [] := List.eq_nil_of_length_eq_zero (by rw [hLtn.out]; have := hrcj.out; omega)
                        rw [this]; exact CAt.nil _ _
                      · have h2 := hLat3.out.below hby
                        rw [hxL.out] at h2
                        rw [hrz, if_neg h1]
                        exact jat_tail h2)
                    have r1 : 1 ≤ rc := by have := hrcj.out; omega
                    have r2 : j ≤ rc := hrcj.out
                    have hwm : m ≤ 30 := by have := hlenI.out; have := hte.out; omega
                    have hj1i : (1 : Int) ≤ (j : Int) := by omega
                    replace hrz := hid hrz
                    refine wp_region_drawn (Rel := fun w w' => Below w.heap.size w w') (Pr := PrV [.agg CF, .slice (some ⟨b, o, none⟩) j rc, .slice (rz) (j - 1) (rc - 1), undef, .slice xa m xc, .bool true, .bool true, .bool true, .bool true, .bool true] [3] (fun _ v w => ∃ r c, v = .slice r m c ∧ IAt w r WN)) (by kernel_rfl) (by kernel_rfl) (Below.drew (Below.refl _ _)) (fun _ _ _ h k => h.trans (k.mono h.size)) (PrV.mono fun _ _ _ _ h k => by obtain ⟨r, c, e, h2⟩ := h; exact ⟨r, c, e, h2.below k⟩) ?_ ?_
                    · refine ⟨?_, ?_, ?_, ?_, ?_, ?_, ?_, ?_, ?_, ?_, trivial⟩
                      · intro ac w1 hR hd hk Kx hK
                        exact yes (want_n rfl) (wp_load_row 28 _ rfl gS (get_keep (hk 3 (no_dst (by kernel_rfl))) rfl) 28 CF (0, 0) _ (by rw [hR.block _ hgSy]; exact hrCy.out) Try.underlying28 rfl (by rw [hcs.out]; kernel_rfl) (hK _ w1 (PrV.is rfl rfl) (Below.refl _ _)))
                      · intro ac w1 hR hd hk Kx hK
                        exact yes (want_n rfl) (wp_mv _ rfl _ (get_keep (hk 11 (no_dst (by kernel_rfl))) rfl) (hK _ w1 (PrV.is rfl rfl) (Below.refl _ _)))
                      · intro ac w1 hR hd hk Kx hK
                        have e129 : ac.tmps[129]?.getD undef = (.slice (some ⟨b, o, none⟩) j rc : Value) := slot ((hd 1 _ 129 rfl rfl rfl).val rfl)
                        refine yes (want_n rfl) ?_
                        have hv := hid (hK (.slice (rz) (j - 1) (rc - 1)) w1 (PrV.is rfl rfl) (Below.refl _ _))
                        go_simp
                        by_cases h1 : rc = 1
                        · have h2 := hrz.out
                          rw [if_pos h1] at h2 ⊢
                          rw [← h2]
                          exact kq hv.out rfl
                        · have h2 := hrz.out
                          rw [if_neg h1] at h2 ⊢
                          rw [← h2]
                          exact kq hv.out rfl
                      · intro ac w1 hR hd hk Kx hK
                        exact yes (want_n rfl) (wp_callv 7 _ _ rfl _ Try.func7 rfl rfl _ (args2 ((hd 0 _ 128 rfl rfl rfl).val rfl) ((hd 2 _ 130 rfl rfl rfl).val rfl)) (kQ.out w1 (hB9.out.trans (hR.mono hB9.out.size)) (rz) (j - 1) (rc - 1) Lt hLtn.out (by omega) (hLtat.out.below hR)) (by
                          rintro e w2 ⟨ra9, rc9, q9, rfl, hq9, hqa9, hqc9, h9⟩
                          have e9 : q9 = WN := IsQ.uniq pr (·.id) hless.out hq9
                          subst e9
                          rw [hm.out]
                          exact ⟨_, rfl, hK _ _ (PrV.by rfl ⟨ra9, rc9, rfl, hqa9⟩) h9⟩))
                      · intro ac w1 hR hd hk Kx hK
                        exact yes (want_n rfl) (wp_mv _ rfl _ (get_keep (hk 16 (no_dst (by kernel_rfl))) rfl) (hK _ w1 (PrV.is rfl rfl) (Below.refl _ _)))
                      · intro ac w1 hR hd hk Kx hK
                        obtain ⟨r9, c9, ee, hi9⟩ := (hd 3 _ 131 rfl rfl rfl).out rfl
                        exact yes (want_n rfl) (wp_callv 11 _ _ rfl _ Try.func11 rfl rfl _ (args2 ee ((hd 4 _ 132 rfl rfl rfl).val rfl)) (sameints r9 xa m c9 xc WN w1 hm.out (by omega) hi9 (hWat.out.below hR)) (by rintro e w2 ⟨rfl, hb9⟩; exact ⟨_, rfl, hK _ _ (PrV.is rfl rfl) hb9⟩))
                      · intro ac w1 hR hd hk Kx hK
                        exact yes (want_n rfl) (wp_mv _ rfl _ ((hd 5 _ 133 rfl rfl rfl).val rfl) (hK _ w1 (PrV.is rfl rfl) (Below.refl _ _)))
                      · intro ac w1 hR hd hk Kx hK
                        exact yes (want_g rfl rfl ((hd 6 _ 134 rfl rfl rfl).val rfl)) (wp_callv 6 _ _ rfl _ Try.func6 rfl rfl _ (by simp) (awake_any w1) (by rintro e w2 ⟨rfl, hb9⟩; exact ⟨_, rfl, hK _ _ (PrV.is rfl rfl) hb9⟩))
                      · intro ac w1 hR hd hk Kx hK
                        exact yes (want_n rfl) (wp_pick _ _ _ rfl true _ ((hd 6 _ 134 rfl rfl rfl).val rfl) ((hd 7 _ 135 rfl rfl rfl).val rfl) (hK _ w1 (PrV.is rfl rfl) (Below.refl _ _)))
                      · intro ac w1 hR hd hk Kx hK
                        have e136 : ac.tmps[136]?.getD undef = (.bool true : Value) := slot ((hd 8 _ 136 rfl rfl rfl).val rfl)
                        refine yes (want_n rfl) ?_
                        have hv := hid (hK (.bool true) w1 (PrV.is rfl rfl) (Below.refl _ _))
                        go_simp
                        exact kq hv.out rfl
                    · intro ac w1 hdf hsz2 hkp hval hRw
                      obtain ⟨ff, hf⟩ : ∃ ff, ff = fun d => ac.tmps.getD d undef := ⟨_, rfl⟩
                      have h6 : ff 6 = .bool true := by rw [hf]; exact (hval 9 _ 6 rfl rfl).val rfl
                      have hfa := act_filled hdf hsz2 hkp
                      rw [← hf] at hfa
                      rw [hfa]
                      clear hdf hsz2 hkp hval hfa hf
                      clear ac
                      simp only [fillAll, List.set_cons_zero, List.set_cons_succ, h6]
                      have B9 : Below gS w w1 := b1.out.trans ((hB9.out.trans (hRw.mono hB9.out.size)).mono (by have := hsz1.out; omega))
                      clear hRw
                      go_wp2
                      go_ret
                      exact ⟨rfl, B9⟩

end Go.Proofs.Ytflapjehkgefdaa
