/- QuotaHolds: jobs that ask one by one, and start only where they may. -/
import Derived.Test.YtpebhjncdfcmnaaWithin
namespace Go.Proofs.Ytpebhjncdfcmnaa
open Go.RowKit
set_option linter.unusedVariables false

def spcAt (L : List Spc) (i : Nat) : Spc := L.getD i spc0
theorem spcAt_eq {L : List Spc} {i : Nat} (h : i < L.length) : L[i] = spcAt L i := by simp [spcAt, h]
theorem SpAt.below {w w' : World} {a : Option Addr} {C : List Spc} (h : SpAt w a C) (hb : Below w.heap.size w w') : SpAt w' a C := CAt.below h hb
theorem SpAt.place {w : World} {a : Option Addr} {C : List Spc} (h : SpAt w a C) (h0 : 0 < C.length) : ∃ b o, a = some ⟨b, o, none⟩ := flat_place sc 8 sc_len (by omega) h h0
theorem SpAt.range {w : World} {b o : Nat} {C : List Spc} (h : SpAt w (some ⟨b, o, none⟩) C) {i : Nat} (hi : i < C.length) : w.rangeAt b (o + i * 8) (sc (spcAt C i)) := by
  intro r v hv
  have hr : r < 8 := by
    rcases Nat.lt_or_ge r 8 with h1 | h1
    · exact h1
    · rw [List.getElem?_eq_none (by rw [sc_len]; exact h1)] at hv; cases hv
  have := flat_cell sc 8 sc_len (by omega) h hi r hr
  simp only [spcAt_eq hi] at this
  rw [this]
  rw [List.getElem?_eq_getElem (by rw [sc_len]; exact hr)] at hv
  exact hv

/-- The job at q is over. -/
theorem own_over {w : World} {base n g c q : Nat} {L : List Job} (h : w.ownsRow base 53 17 (.slice (some ⟨g, 0, none⟩) n c) n (L.flatMap jc)) (hq : q < L.length) (hn : L.length = n) :
    (w.setCell ⟨g, q * 17 + 11, none⟩ (.int .u8 3)).ownsRow base 53 17 (.slice (some ⟨g, 0, none⟩) n c) n ((L.set q L[q].over).flatMap jc) := by
  rw [← flat_set jc 17 jc_len hq L[q].over 11 (.int .u8 3) (by omega) rfl]
  exact owns_put h (by omega) _

set_option maxRecDepth 100000 in
set_option maxHeartbeats 8000000 in
theorem holds_any (ca pa aa qa : Option Addr) (cn cc pn pc ak az qk qc : Nat) (pol : Int) (A : List Acc) (Q : List Qu) (sa : Option Addr) (sn sk2 : Nat) (S : List Spc) (ea : Option Addr) (en ec : Nat) (E : List Int) (w : World) (hA : A.length = ak) (hac : ak ≤ az) (hQ : Q.length = qk) (hatA : AAt w aa A) (hatQ : QAt w qa Q) (hS : S.length = sn) (hSat : SpAt w sa S) (hE : E.length = en) (hel : en ≤ 4611686018427387904) (hsl : sn ≤ 4611686018427387904) (hEat : IAt w ea E) :
    Calls Try.prog 4 #[.agg #[.slice ca cn cc, .slice pa pn pc, .slice aa ak az, .slice qa qk qc, .int .u8 pol], .slice sa sn sk2, .slice ea en ec] w fun e w' => e = .returned (.bool true) ∧ Below w.heap.size w w' := by
  obtain ⟨i0, hi, hz0, hz1, hz2⟩ := info_parts info53
  obtain ⟨W0, hW0⟩ : ∃ W0, W0 = w.alloc (.cells #[.slice ca cn cc, .slice pa pn pc, .slice aa ak az, .slice qa qk qc, .int .u8 pol] 28) := ⟨_, rfl⟩
  have bl := below_lit w (.cells #[.slice ca cn cc, .slice pa pn pc, .slice aa ak az, .slice qa qk qc, .int .u8 pol] 28)
  have cl := lit_range w 28 [.slice ca cn cc, .slice pa pn pc, .slice aa ak az, .slice qa qk qc, .int .u8 pol]
  have v0 := cl 0 _ rfl
  have v1 := cl 1 _ rfl
  have v2 := cl 2 _ rfl
  have v3 := cl 3 _ rfl
  have v4 := cl 4 _ rfl
  simp only [Nat.zero_add] at v0 v1 v2 v3 v4
  clear cl
  have kR := conf_any ca pa aa qa cn cc pn pc ak az qk qc pol A Q _ hA hac hQ (hatA.below bl) (hatQ.below bl)
  rw [← hW0] at bl v0 v1 v2 v3 v4 kR
  have hs0 : W0.heap.size = w.heap.size + 1 := by rw [hW0, size_lit]
  cases hR : confB A Q with
  | false =>
    rw [hR] at kR
    replace hA := hid hA
    replace hQ := hid hQ
    replace hatA := hid hatA
    replace hatQ := hid hatQ
    replace hS := hid hS
    replace hE := hid hE
    replace hSat := hid hSat
    replace hEat := hid hEat
    go_enter Try.func4, Try.ntmps4
    go_wp2_with fail
    rw [← hW0]
    refine kR.mono ?_
    rintro e w1 ⟨rfl, hb1⟩
    have D1 := bnext bl hb1
    go_wp2_with fail
    refine (awake_any _).mono ?_
    rintro e w2 ⟨rfl, hb2⟩
    have D2 := bnext D1 hb2
    go_wp2
    go_ret
    exact ⟨rfl, D2⟩
  | true =>
    rw [hR] at kR
    by_cases h40 : 40 < sn
    · have d40 : decide ((40 : Int) < (sn : Int)) = true := decide_eq_true (by omega)
      replace hR := hid hR
      replace hA := hid hA
      replace hQ := hid hQ
      replace hatA := hid hatA
      replace hatQ := hid hatQ
      replace hS := hid hS
      replace hE := hid hE
      replace hSat := hid hSat
      replace hEat := hid hEat
      go_enter Try.func4, Try.ntmps4
      go_wp2_with fail
      rw [← hW0]
      refine kR.mono ?_
      rintro e w1 ⟨rfl, hb1⟩
      have D1 := bnext bl hb1
      go_wp2_with fail
      refine (awake_any _).mono ?_
      rintro e w2 ⟨rfl, hb2⟩
      have D2 := bnext D1 hb2
      go_wp2
      go_ret
      exact ⟨rfl, D2⟩
    · have d40 : decide ((40 : Int) < (sn : Int)) = false := decide_eq_false (by omega)
      have kM0 := fun s wx (hb : Below w.heap.size w wx) L a k c (hn : List.length L = k) (hl : k ≤ 4611686018427387904) (hJ : JAt wx a L) => may_any ca pa aa qa cn cc pn pc ak az qk qc pol A Q a k c L s wx hA hac hQ (hatA.below hb) (hatQ.below hb) hn hl hJ
      have kW0 := fun wx (hb : Below w.heap.size w wx) L a k c (hn : List.length L = k) (hl : k ≤ 1048576) (hJ : JAt wx a L) (hT : ∀ j ∈ L, Tame j.s) (hW : Within A Q L) => within_any ca pa aa qa cn cc pn pc ak az qk qc pol A Q a k c L wx hA hac hQ (hatA.below hb) (hatQ.below hb) hn (by omega) hJ hR hT hl hW
      replace hR := hid hR
      replace hA := hid hA
      replace hQ := hid hQ
      replace hatA := hid hatA
      replace hatQ := hid hatQ
      replace hS := hid hS
      replace hE := hid hE
      replace hSat := hid hSat
      replace hEat := hid hEat
      replace kM0 := hid kM0
      replace kW0 := hid kW0
      replace v0 := hid v0
      replace v1 := hid v1
      replace v2 := hid v2
      replace v3 := hid v3
      replace v4 := hid v4
      go_enter Try.func4, Try.ntmps4
      go_wp2_with fail
      rw [← hW0]
      replace hW0 := hid hW0
      refine kR.mono ?_
      rintro e w1 ⟨rfl, hb1⟩
      have D1 := bnext bl hb1
      have hw1s : w.heap.size < w1.heap.size := by have := hb1.size; omega
      replace v0 := hid (stay hb1 v0.out)
      replace v1 := hid (stay hb1 v1.out)
      replace v2 := hid (stay hb1 v2.out)
      replace v3 := hid (stay hb1 v3.out)
      replace v4 := hid (stay hb1 v4.out)
      have kM1 := hid (fun s L a k c wx (hb : Below w1.heap.size w1 wx) (hn : List.length L = k) (hl : k ≤ 4611686018427387904) (hJ : JAt wx a L) => kM0.out s wx (bnext D1 hb) L a k c hn hl hJ)
      have kW := hid (fun L a k c wx (hb : Below w1.heap.size w1 wx) (hn : List.length L = k) (hl : k ≤ 1048576) (hJ : JAt wx a L) (hT : ∀ j ∈ L, Tame j.s) (hW : Within A Q L) => kW0.out wx (bnext D1 hb) L a k c hn hl hJ hT hW)
      clear kM0 kW0 kR
      go_wp2_with fail
      go_loopw [7, 22] (fun v i wr => ∃ (j n : Nat) (L : List Job) (va : Option Addr) (vc : Nat), j ≤ sn ∧ n ≤ j ∧ v = .slice va n vc ∧ i = .int .i64 (j : Int) ∧ Hid (wr.ownsRow w1.heap.size 53 17 (.slice va n vc) n (L.flatMap jc) ∧ L.length = n ∧ (∀ x ∈ L, Tame x.s) ∧ Within A Q L) ∧ Below w1.heap.size w1 wr) (fun _ i _ => sn - (intOf i).toNat)
      case atStart => exact ⟨0, 0, [], none, 0, Nat.zero_le _, Nat.le_refl _, rfl, rfl, hid ⟨World.ownsRow_nil _ _ _ _, rfl, (fun x h => by cases h), Within.nil _ _⟩, Below.refl _ _⟩
      case round =>
        obtain ⟨j, n, L, va, vc, hj, hnj, rfl, rfl, hin, hb⟩ := hrel
        by_cases hlt : j < sn
        · have hjS : j < S.length := by rw [hS.out]; exact hlt
          have Bw := bnext D1 hb
          obtain ⟨sb, so, e⟩ := hSat.out.place (by omega)
          subst e
          have hcs := hid ((hSat.out.below Bw).range hjS)
          generalize spcAt S j = s at *
          have bl2 := below_lit wr (.cells (sc s).toArray 32)
          have D2 := bnext hb bl2
          have kWi := wild_any s (wr.alloc (.cells (sc s).toArray 32))
          have hrow : (wr.alloc (.cells (sc s).toArray 32)).heap[wr.heap.size]? = some (.cells (sc s).toArray 32 (0, 0)) := heap_alloc_new wr _
          replace hrow := hid hrow
          cases hwi : wildB s with
          | true =>
            rw [hwi] at kWi
            replace hwi := hid hwi
            go_wp2_with (first
              | (refine wpList_load_mid rfl 32 (.tmp 25) rfl sb (so + j * 8) rfl (sc s) _ hcs.out Try.underlying32 rfl (by kernel_rfl) ?_)
              | (refine wpList_store_row rfl 32 (.tmp 9) (.tmp 26) rfl wr.heap.size (sc s).toArray rfl rfl 32 _ (heap_alloc_new wr _) (by kernel_rfl) rfl (sc_all s) ?_; rw [alloc_setRow])
              | (refine wpList_load_row rfl 32 (.tmp 9) rfl wr.heap.size rfl 32 (sc s).toArray (0, 0) _ hrow.out Try.underlying32 rfl (by kernel_rfl) ?_))
            refine kWi.mono ?_
            rintro e w2 ⟨rfl, hb2⟩
            have D3 := bnext (bnext D1 D2) hb2
            go_wp2_with fail
            refine (awake_any _).mono ?_
            rintro e w3 ⟨rfl, hb3⟩
            have D4 := bnext D3 hb3
            go_wp2
            go_ret
            exact ⟨rfl, D4⟩
          | false =>
            rw [hwi] at kWi
            have hs := hid (wild_no hwi)
            replace hwi := hid hwi
            obtain ⟨hown0, hLn, hTm0, hWi0⟩ := hin.out
            clear hin
            replace hown0 := hid hown0
            replace hLn := hid hLn
            replace hTm0 := hid hTm0
            replace hWi0 := hid hWi0
            have kM := hid (kM1.out s)
            go_wp2_with (first
              | (refine wpList_load_mid rfl 32 (.tmp 25) rfl sb (so + j * 8) rfl (sc s) _ hcs.out Try.underlying32 rfl (by kernel_rfl) ?_)
              | (refine wpList_store_row rfl 32 (.tmp 9) (.tmp 26) rfl wr.heap.size (sc s).toArray rfl rfl 32 _ (heap_alloc_new wr _) (by kernel_rfl) rfl (sc_all s) ?_; rw [alloc_setRow])
              | (refine wpList_load_row rfl 32 (.tmp 9) rfl wr.heap.size rfl 32 (sc s).toArray (0, 0) _ hrow.out Try.underlying32 rfl (by kernel_rfl) ?_))
            refine kWi.mono ?_
            rintro e w2 ⟨rfl, hb2⟩
            have D := bnext D2 hb2
            have hown := hid (owns_below (owns_below hown0.out bl2) hb2)
            have h9 := hid (show w2.heap[wr.heap.size]? = some (.cells (sc s).toArray 32 (0, 0)) by rw [hb2.block _ (Array.getElem?_eq_some_iff.1 hrow.out).1]; exact hrow.out)
            have y0 := stay D v0.out
            have y1 := stay D v1.out
            have y2 := stay D v2.out
            have y3 := stay D v3.out
            have y4 := stay D v4.out
            clear kWi hrow hcs
            by_cases hje : j < en
            · have dje : decide ((j : Int) < (en : Int)) = true := decide_eq_true (by omega)
              have hjE : j < E.length := by rw [hE.out]; exact hje
              obtain ⟨eb, eo, e⟩ := hEat.out.place (by omega)
              subst e
              have x0 := (hEat.out.below (bnext D1 D)).one hjE
              generalize itAt E j = x at *
              by_cases hx0 : 0 ≤ x
              · have dx0 : decide (0 ≤ x) = true := by simpa using hx0
                by_cases hxn : x < (n : Int)
                · have dxn : decide (x < (n : Int)) = true := by simpa using hxn
                  obtain ⟨q, rfl⟩ : ∃ q : Nat, x = (q : Int) := ⟨x.toNat, by omega⟩
                  have hqn : q < n := by omega
                  have hqL : q < L.length := by rw [hLn.out]; exact hqn
                  obtain ⟨g, c', e, hgb, hgl, hc', hfz⟩ := owns_spot hown.out (by omega)
                  simp only [Value.slice.injEq] at e
                  obtain ⟨rfl, _, rfl⟩ := e
                  have hcell := (show JAt w2 (some ⟨g, 0, none⟩) L from owns_cat hown.out).cell hqL 11 (by omega)
                  rw [show 0 + q * 17 + 11 = q * 17 + 11 by omega] at hcell
                  have hcell2 : w2.cell? ⟨g, q * 17 + 11, none⟩ = some (.int .u8 (jobAt L q).st) := hcell
                  clear hcell
                  have hfz2 := hfz (q * 17 + 11)
                  clear hfz
                  have hgr : g < wr.heap.size := by
                    exact owns_lt hown0.out rfl
                  have hov := hid (own_over hown.out hqL hLn.out)
                  have D' : Below w1.heap.size w1 (w2.setCell ⟨g, q * 17 + 11, none⟩ (.int .u8 3)) := Below.setCell D hgb _
                  have hL1 : Hid ((L.set q L[q].over).length = n) := hid (by rw [List.length_set]; exact hLn.out)
                  have hWi := hid (hWi0.out.over hqL)
                  have hTm : Hid (∀ y ∈ L.set q L[q].over, Tame y.s) := hid (fun y hy => by
                    rcases List.mem_or_eq_of_mem_set hy with h | h
                    · exact hTm0.out y h
                    · rw [h]; exact hTm0.out L[q] (List.getElem_mem hqL))
                  have h9' := hid (show (w2.setCell ⟨g, q * 17 + 11, none⟩ (.int .u8 3)).heap[wr.heap.size]? = some (.cells (sc s).toArray 32 (0, 0)) by rw [Below.heap_setCell _ _ _ _ (by simp only; omega)]; exact h9.out)
                  have hcy : ∀ r v, w2.cell? ⟨w.heap.size, r, none⟩ = some v → (w2.setCell ⟨g, q * 17 + 11, none⟩ (.int .u8 3)).cell? ⟨w.heap.size, r, none⟩ = some v := fun r v h => by
                    rw [World.cell?_of_block (w := w2) (a := ⟨w.heap.size, r, none⟩) (Below.heap_setCell _ _ _ _ (by simp only; omega))]; exact h
                  replace y0 := hcy _ _ y0
                  replace y1 := hcy _ _ y1
                  replace y2 := hcy _ _ y2
                  replace y3 := hcy _ _ y3
                  replace y4 := hcy _ _ y4
                  clear hcy
                  replace h9 := h9'
                  replace hown := hov
                  clear h9' hov
                  replace D := D'
                  clear D'
                  have hJ := hid (show JAt (w2.setCell ⟨g, q * 17 + 11, none⟩ (.int .u8 3)) (some ⟨g, 0, none⟩) (L.set q L[q].over) from owns_cat hown.out)
                  have km := kM.out (L.set q L[q].over) (some ⟨g, 0, none⟩) n vc (w2.setCell ⟨g, q * 17 + 11, none⟩ (.int .u8 3)) D hL1.out (by omega) hJ.out
                  rcases may_is (L := (L.set q L[q].over)) (s := s) hR.out with hm | hm | hm
                  · rw [hm] at km
                    have hWi2 := hid (hWi.out.run hR.out hTm.out (by have := hL1.out; omega) hs.out hm)
                    replace hm := hid hm
                    go_wp2_with (first
                      | (refine wpList_load_row rfl 32 (.tmp 9) rfl wr.heap.size rfl 32 (sc s).toArray (0, 0) _ h9.out Try.underlying32 rfl (by kernel_rfl) ?_))
                    refine km.mono ?_
                    rintro e w3 ⟨rfl, hb3⟩
                    have D3 := bnext D hb3
                    have o3 := hid (owns_below hown.out hb3)
                    replace h9 := hid (show w3.heap[wr.heap.size]? = some (.cells (sc s).toArray 32 (0, 0)) by rw [hb3.block _ (Array.getElem?_eq_some_iff.1 h9.out).1]; exact h9.out)
                    replace y0 := stay hb3 y0
                    replace y1 := stay hb3 y1
                    replace y2 := stay hb3 y2
                    replace y3 := stay hb3 y3
                    replace y4 := stay hb3 y4
                    have bl4 := below_lit w3 (.cells (jc (runJ s)).toArray 53)
                    have D4 := bnext D3 bl4
                    have o4 := hid (owns_below o3.out bl4)
                    have hcat := hid (cat_lit w3 53 (jc (runJ s)) (jc (runJ s)).toArray rfl)
                    have hone := hid (jc_one (runJ s))
                    clear km
                    go_wp2_with (first
                      | (refine wpList_load_row rfl 32 (.tmp 9) rfl wr.heap.size rfl 32 (sc s).toArray (0, 0) _ h9.out Try.underlying32 rfl (by kernel_rfl) ?_)
                      | (refine wpList_buildTo rfl 53 _ rfl (some 65) rfl (jc (runJ s)).toArray (by kernel_rfl) ?_)
                      | (refine wpList_one rfl 29 53 (.tmp 65) rfl (jc (runJ s)).toArray 17 i0 _ Try.underlying29 hi hz0 hz1 (by omega) (by omega) rfl rfl ?_)
                      | (at_builtin; refine Hid.out ?_))
                    refine wpList_cat _ rfl (.tmp 63) (.tmp 66) 29 rfl w1.heap.size 53 i0 _ 17 184 Try.underlying29 hi hz0 hz1 hz2 rfl (by omega) _ _ _ rfl o4.out (some ⟨w3.heap.size, 0, none⟩) 1 1 (jc (runJ s)) rfl rfl hcat.out hone.out (by unfold maxLen; omega) (by omega) D4.size ?_
                    intro v' w5 ho5 hg5 hv5
                    have D5 : Below w1.heap.size w1 w5 := Below.grown D4 hg5 D4.size (fun j hj => (o4.out.lt _ hj).1)
                    have kp5 := Kp.grown hg5
                    have hny : ∀ r v, w3.cell? ⟨w.heap.size, r, none⟩ = some v → w5.cell? ⟨w.heap.size, r, none⟩ = some v := fun r v h => by
                      have h4 := stay bl4 h
                      rw [World.cell?_of_block (w := w3.alloc (.cells (jc (runJ s)).toArray 53)) (a := ⟨w.heap.size, r, none⟩) (kp5.block _ (World.block_lt_of_cell? _ _ h4) (fun e => by have h1 : w1.heap.size ≤ w.heap.size := (o4.out.lt _ e).1; omega))]
                      exact h4
                    replace y0 := hny _ _ y0
                    replace y1 := hny _ _ y1
                    replace y2 := hny _ _ y2
                    replace y3 := hny _ _ y3
                    replace y4 := hny _ _ y4
                    clear hny kp5
                    obtain ⟨va2, vc2, e, hvc2⟩ := owns_form ho5
                    subst e
                    have o5 : Hid (w5.ownsRow w1.heap.size 53 17 (.slice va2 (n + 1) vc2) (n + 1) (((L.set q L[q].over) ++ [runJ s]).flatMap jc)) := hid (by rw [List.flatMap_append]; simpa using ho5)
                    have hL5 : Hid (((L.set q L[q].over) ++ [runJ s]).length = n + 1) := hid (by rw [List.length_append, hL1.out]; rfl)
                    have hT5 : Hid (∀ j ∈ (L.set q L[q].over) ++ [runJ s], Tame j.s) := hid (fun j hj => by
                      rcases List.mem_append.1 hj with h | h
                      · exact hTm.out j h
                      · rw [List.mem_singleton.1 h]; exact hs.out)
                    clear ho5 hg5 hv5 hcat hone
                    have kw := kW.out ((L.set q L[q].over) ++ [runJ s]) va2 (n + 1) vc2 w5 D5 hL5.out (by omega) (owns_cat o5.out) hT5.out hWi2.out
                    go_wp2_with fail
                    refine kw.mono ?_
                    rintro e w6 ⟨rfl, hb6⟩
                    have D6 := bnext D5 hb6
                    have o6 := hid (owns_below o5.out hb6)
                    go_wp2_with fail
                    go_roundw
                    case rel => exact ⟨j + 1, n + 1, (L.set q L[q].over) ++ [runJ s], va2, vc2, by omega, by omega, rfl, by go_num, hid ⟨o6.out, hL5.out, hT5.out, hWi2.out⟩, D6⟩
                    case measure => simp [intOf]; omega
                  · rw [hm] at km
                    replace hm := hid hm
                    go_wp2_with (first
                      | (refine wpList_load_row rfl 32 (.tmp 9) rfl wr.heap.size rfl 32 (sc s).toArray (0, 0) _ h9.out Try.underlying32 rfl (by kernel_rfl) ?_))
                    refine km.mono ?_
                    rintro e w3 ⟨rfl, hb3⟩
                    have D3 := bnext D hb3
                    have o3 := hid (owns_below hown.out hb3)
                    replace y0 := stay hb3 y0
                    replace y1 := stay hb3 y1
                    replace y2 := stay hb3 y2
                    replace y3 := stay hb3 y3
                    replace y4 := stay hb3 y4
                    have kw := kW.out (L.set q L[q].over) (some ⟨g, 0, none⟩) n vc w3 D3 hL1.out (by omega) (owns_cat o3.out) hTm.out hWi.out
                    go_wp2_with fail
                    refine kw.mono ?_
                    rintro e w6 ⟨rfl, hb6⟩
                    have D6 := bnext D3 hb6
                    have o6 := hid (owns_below o3.out hb6)
                    go_wp2_with fail
                    go_roundw
                    case rel => exact ⟨j + 1, n, (L.set q L[q].over), some ⟨g, 0, none⟩, vc, by omega, by omega, rfl, by go_num, hid ⟨o6.out, hL1.out, hTm.out, hWi.out⟩, D6⟩
                    case measure => simp [intOf]; omega
                  · rw [hm] at km
                    replace hm := hid hm
                    go_wp2_with (first
                      | (refine wpList_load_row rfl 32 (.tmp 9) rfl wr.heap.size rfl 32 (sc s).toArray (0, 0) _ h9.out Try.underlying32 rfl (by kernel_rfl) ?_))
                    refine km.mono ?_
                    rintro e w3 ⟨rfl, hb3⟩
                    have D3 := bnext D hb3
                    have o3 := hid (owns_below hown.out hb3)
                    replace y0 := stay hb3 y0
                    replace y1 := stay hb3 y1
                    replace y2 := stay hb3 y2
                    replace y3 := stay hb3 y3
                    replace y4 := stay hb3 y4
                    have kw := kW.out (L.set q L[q].over) (some ⟨g, 0, none⟩) n vc w3 D3 hL1.out (by omega) (owns_cat o3.out) hTm.out hWi.out
                    go_wp2_with fail
                    refine kw.mono ?_
                    rintro e w6 ⟨rfl, hb6⟩
                    have D6 := bnext D3 hb6
                    have o6 := hid (owns_below o3.out hb6)
                    go_wp2_with fail
                    go_roundw
                    case rel => exact ⟨j + 1, n, (L.set q L[q].over), some ⟨g, 0, none⟩, vc, by omega, by omega, rfl, by go_num, hid ⟨o6.out, hL1.out, hTm.out, hWi.out⟩, D6⟩
                    case measure => simp [intOf]; omega
                · have dxn : decide (x < (n : Int)) = false := by simpa using hxn
                  have hJ := hid (show JAt w2 va L from owns_cat hown.out)
                  have km := kM.out L va n vc w2 D hLn.out (by omega) hJ.out
                  rcases may_is (L := L) (s := s) hR.out with hm | hm | hm
                  · rw [hm] at km
                    have hWi2 := hid (hWi0.out.run hR.out hTm0.out (by have := hLn.out; omega) hs.out hm)
                    replace hm := hid hm
                    go_wp2_with (first
                      | (refine wpList_load_row rfl 32 (.tmp 9) rfl wr.heap.size rfl 32 (sc s).toArray (0, 0) _ h9.out Try.underlying32 rfl (by kernel_rfl) ?_))
                    refine km.mono ?_
                    rintro e w3 ⟨rfl, hb3⟩
                    have D3 := bnext D hb3
                    have o3 := hid (owns_below hown.out hb3)
                    replace h9 := hid (show w3.heap[wr.heap.size]? = some (.cells (sc s).toArray 32 (0, 0)) by rw [hb3.block _ (Array.getElem?_eq_some_iff.1 h9.out).1]; exact h9.out)
                    replace y0 := stay hb3 y0
                    replace y1 := stay hb3 y1
                    replace y2 := stay hb3 y2
                    replace y3 := stay hb3 y3
                    replace y4 := stay hb3 y4
                    have bl4 := below_lit w3 (.cells (jc (runJ s)).toArray 53)
                    have D4 := bnext D3 bl4
                    have o4 := hid (owns_below o3.out bl4)
                    have hcat := hid (cat_lit w3 53 (jc (runJ s)) (jc (runJ s)).toArray rfl)
                    have hone := hid (jc_one (runJ s))
                    clear km
                    go_wp2_with (first
                      | (refine wpList_load_row rfl 32 (.tmp 9) rfl wr.heap.size rfl 32 (sc s).toArray (0, 0) _ h9.out Try.underlying32 rfl (by kernel_rfl) ?_)
                      | (refine wpList_buildTo rfl 53 _ rfl (some 65) rfl (jc (runJ s)).toArray (by kernel_rfl) ?_)
                      | (refine wpList_one rfl 29 53 (.tmp 65) rfl (jc (runJ s)).toArray 17 i0 _ Try.underlying29 hi hz0 hz1 (by omega) (by omega) rfl rfl ?_)
                      | (at_builtin; refine Hid.out ?_))
                    refine wpList_cat _ rfl (.tmp 63) (.tmp 66) 29 rfl w1.heap.size 53 i0 _ 17 184 Try.underlying29 hi hz0 hz1 hz2 rfl (by omega) _ _ _ rfl o4.out (some ⟨w3.heap.size, 0, none⟩) 1 1 (jc (runJ s)) rfl rfl hcat.out hone.out (by unfold maxLen; omega) (by omega) D4.size ?_
                    intro v' w5 ho5 hg5 hv5
                    have D5 : Below w1.heap.size w1 w5 := Below.grown D4 hg5 D4.size (fun j hj => (o4.out.lt _ hj).1)
                    have kp5 := Kp.grown hg5
                    have hny : ∀ r v, w3.cell? ⟨w.heap.size, r, none⟩ = some v → w5.cell? ⟨w.heap.size, r, none⟩ = some v := fun r v h => by
                      have h4 := stay bl4 h
                      rw [World.cell?_of_block (w := w3.alloc (.cells (jc (runJ s)).toArray 53)) (a := ⟨w.heap.size, r, none⟩) (kp5.block _ (World.block_lt_of_cell? _ _ h4) (fun e => by have h1 : w1.heap.size ≤ w.heap.size := (o4.out.lt _ e).1; omega))]
                      exact h4
                    replace y0 := hny _ _ y0
                    replace y1 := hny _ _ y1
                    replace y2 := hny _ _ y2
                    replace y3 := hny _ _ y3
                    replace y4 := hny _ _ y4
                    clear hny kp5
                    obtain ⟨va2, vc2, e, hvc2⟩ := owns_form ho5
                    subst e
                    have o5 : Hid (w5.ownsRow w1.heap.size 53 17 (.slice va2 (n + 1) vc2) (n + 1) ((L ++ [runJ s]).flatMap jc)) := hid (by rw [List.flatMap_append]; simpa using ho5)
                    have hL5 : Hid ((L ++ [runJ s]).length = n + 1) := hid (by rw [List.length_append, hLn.out]; rfl)
                    have hT5 : Hid (∀ j ∈ L ++ [runJ s], Tame j.s) := hid (fun j hj => by
                      rcases List.mem_append.1 hj with h | h
                      · exact hTm0.out j h
                      · rw [List.mem_singleton.1 h]; exact hs.out)
                    clear ho5 hg5 hv5 hcat hone
                    have kw := kW.out (L ++ [runJ s]) va2 (n + 1) vc2 w5 D5 hL5.out (by omega) (owns_cat o5.out) hT5.out hWi2.out
                    go_wp2_with fail
                    refine kw.mono ?_
                    rintro e w6 ⟨rfl, hb6⟩
                    have D6 := bnext D5 hb6
                    have o6 := hid (owns_below o5.out hb6)
                    go_wp2_with fail
                    go_roundw
                    case rel => exact ⟨j + 1, n + 1, L ++ [runJ s], va2, vc2, by omega, by omega, rfl, by go_num, hid ⟨o6.out, hL5.out, hT5.out, hWi2.out⟩, D6⟩
                    case measure => simp [intOf]; omega
                  · rw [hm] at km
                    replace hm := hid hm
                    go_wp2_with (first
                      | (refine wpList_load_row rfl 32 (.tmp 9) rfl wr.heap.size rfl 32 (sc s).toArray (0, 0) _ h9.out Try.underlying32 rfl (by kernel_rfl) ?_))
                    refine km.mono ?_
                    rintro e w3 ⟨rfl, hb3⟩
                    have D3 := bnext D hb3
                    have o3 := hid (owns_below hown.out hb3)
                    replace y0 := stay hb3 y0
                    replace y1 := stay hb3 y1
                    replace y2 := stay hb3 y2
                    replace y3 := stay hb3 y3
                    replace y4 := stay hb3 y4
                    have kw := kW.out L va n vc w3 D3 hLn.out (by omega) (owns_cat o3.out) hTm0.out hWi0.out
                    go_wp2_with fail
                    refine kw.mono ?_
                    rintro e w6 ⟨rfl, hb6⟩
                    have D6 := bnext D3 hb6
                    have o6 := hid (owns_below o3.out hb6)
                    go_wp2_with fail
                    go_roundw
                    case rel => exact ⟨j + 1, n, L, va, vc, by omega, by omega, rfl, by go_num, hid ⟨o6.out, hLn.out, hTm0.out, hWi0.out⟩, D6⟩
                    case measure => simp [intOf]; omega
                  · rw [hm] at km
                    replace hm := hid hm
                    go_wp2_with (first
                      | (refine wpList_load_row rfl 32 (.tmp 9) rfl wr.heap.size rfl 32 (sc s).toArray (0, 0) _ h9.out Try.underlying32 rfl (by kernel_rfl) ?_))
                    refine km.mono ?_
                    rintro e w3 ⟨rfl, hb3⟩
                    have D3 := bnext D hb3
                    have o3 := hid (owns_below hown.out hb3)
                    replace y0 := stay hb3 y0
                    replace y1 := stay hb3 y1
                    replace y2 := stay hb3 y2
                    replace y3 := stay hb3 y3
                    replace y4 := stay hb3 y4
                    have kw := kW.out L va n vc w3 D3 hLn.out (by omega) (owns_cat o3.out) hTm0.out hWi0.out
                    go_wp2_with fail
                    refine kw.mono ?_
                    rintro e w6 ⟨rfl, hb6⟩
                    have D6 := bnext D3 hb6
                    have o6 := hid (owns_below o3.out hb6)
                    go_wp2_with fail
                    go_roundw
                    case rel => exact ⟨j + 1, n, L, va, vc, by omega, by omega, rfl, by go_num, hid ⟨o6.out, hLn.out, hTm0.out, hWi0.out⟩, D6⟩
                    case measure => simp [intOf]; omega
              · have dx0 : decide (0 ≤ x) = false := by simpa using hx0
                have hJ := hid (show JAt w2 va L from owns_cat hown.out)
                have km := kM.out L va n vc w2 D hLn.out (by omega) hJ.out
                rcases may_is (L := L) (s := s) hR.out with hm | hm | hm
                · rw [hm] at km
                  have hWi2 := hid (hWi0.out.run hR.out hTm0.out (by have := hLn.out; omega) hs.out hm)
                  replace hm := hid hm
                  go_wp2_with (first
                    | (refine wpList_load_row rfl 32 (.tmp 9) rfl wr.heap.size rfl 32 (sc s).toArray (0, 0) _ h9.out Try.underlying32 rfl (by kernel_rfl) ?_))
                  refine km.mono ?_
                  rintro e w3 ⟨rfl, hb3⟩
                  have D3 := bnext D hb3
                  have o3 := hid (owns_below hown.out hb3)
                  replace h9 := hid (show w3.heap[wr.heap.size]? = some (.cells (sc s).toArray 32 (0, 0)) by rw [hb3.block _ (Array.getElem?_eq_some_iff.1 h9.out).1]; exact h9.out)
                  replace y0 := stay hb3 y0
                  replace y1 := stay hb3 y1
                  replace y2 := stay hb3 y2
                  replace y3 := stay hb3 y3
                  replace y4 := stay hb3 y4
                  have bl4 := below_lit w3 (.cells (jc (runJ s)).toArray 53)
                  have D4 := bnext D3 bl4
                  have o4 := hid (owns_below o3.out bl4)
                  have hcat := hid (cat_lit w3 53 (jc (runJ s)) (jc (runJ s)).toArray rfl)
                  have hone := hid (jc_one (runJ s))
                  clear km
                  go_wp2_with (first
                    | (refine wpList_load_row rfl 32 (.tmp 9) rfl wr.heap.size rfl 32 (sc s).toArray (0, 0) _ h9.out Try.underlying32 rfl (by kernel_rfl) ?_)
                    | (refine wpList_buildTo rfl 53 _ rfl (some 65) rfl (jc (runJ s)).toArray (by kernel_rfl) ?_)
                    | (refine wpList_one rfl 29 53 (.tmp 65) rfl (jc (runJ s)).toArray 17 i0 _ Try.underlying29 hi hz0 hz1 (by omega) (by omega) rfl rfl ?_)
                    | (at_builtin; refine Hid.out ?_))
                  refine wpList_cat _ rfl (.tmp 63) (.tmp 66) 29 rfl w1.heap.size 53 i0 _ 17 184 Try.underlying29 hi hz0 hz1 hz2 rfl (by omega) _ _ _ rfl o4.out (some ⟨w3.heap.size, 0, none⟩) 1 1 (jc (runJ s)) rfl rfl hcat.out hone.out (by unfold maxLen; omega) (by omega) D4.size ?_
                  intro v' w5 ho5 hg5 hv5
                  have D5 : Below w1.heap.size w1 w5 := Below.grown D4 hg5 D4.size (fun j hj => (o4.out.lt _ hj).1)
                  have kp5 := Kp.grown hg5
                  have hny : ∀ r v, w3.cell? ⟨w.heap.size, r, none⟩ = some v → w5.cell? ⟨w.heap.size, r, none⟩ = some v := fun r v h => by
                    have h4 := stay bl4 h
                    rw [World.cell?_of_block (w := w3.alloc (.cells (jc (runJ s)).toArray 53)) (a := ⟨w.heap.size, r, none⟩) (kp5.block _ (World.block_lt_of_cell? _ _ h4) (fun e => by have h1 : w1.heap.size ≤ w.heap.size := (o4.out.lt _ e).1; omega))]
                    exact h4
                  replace y0 := hny _ _ y0
                  replace y1 := hny _ _ y1
                  replace y2 := hny _ _ y2
                  replace y3 := hny _ _ y3
                  replace y4 := hny _ _ y4
                  clear hny kp5
                  obtain ⟨va2, vc2, e, hvc2⟩ := owns_form ho5
                  subst e
                  have o5 : Hid (w5.ownsRow w1.heap.size 53 17 (.slice va2 (n + 1) vc2) (n + 1) ((L ++ [runJ s]).flatMap jc)) := hid (by rw [List.flatMap_append]; simpa using ho5)
                  have hL5 : Hid ((L ++ [runJ s]).length = n + 1) := hid (by rw [List.length_append, hLn.out]; rfl)
                  have hT5 : Hid (∀ j ∈ L ++ [runJ s], Tame j.s) := hid (fun j hj => by
                    rcases List.mem_append.1 hj with h | h
                    · exact hTm0.out j h
                    · rw [List.mem_singleton.1 h]; exact hs.out)
                  clear ho5 hg5 hv5 hcat hone
                  have kw := kW.out (L ++ [runJ s]) va2 (n + 1) vc2 w5 D5 hL5.out (by omega) (owns_cat o5.out) hT5.out hWi2.out
                  go_wp2_with fail
                  refine kw.mono ?_
                  rintro e w6 ⟨rfl, hb6⟩
                  have D6 := bnext D5 hb6
                  have o6 := hid (owns_below o5.out hb6)
                  go_wp2_with fail
                  go_roundw
                  case rel => exact ⟨j + 1, n + 1, L ++ [runJ s], va2, vc2, by omega, by omega, rfl, by go_num, hid ⟨o6.out, hL5.out, hT5.out, hWi2.out⟩, D6⟩
                  case measure => simp [intOf]; omega
                · rw [hm] at km
                  replace hm := hid hm
                  go_wp2_with (first
                    | (refine wpList_load_row rfl 32 (.tmp 9) rfl wr.heap.size rfl 32 (sc s).toArray (0, 0) _ h9.out Try.underlying32 rfl (by kernel_rfl) ?_))
                  refine km.mono ?_
                  rintro e w3 ⟨rfl, hb3⟩
                  have D3 := bnext D hb3
                  have o3 := hid (owns_below hown.out hb3)
                  replace y0 := stay hb3 y0
                  replace y1 := stay hb3 y1
                  replace y2 := stay hb3 y2
                  replace y3 := stay hb3 y3
                  replace y4 := stay hb3 y4
                  have kw := kW.out L va n vc w3 D3 hLn.out (by omega) (owns_cat o3.out) hTm0.out hWi0.out
                  go_wp2_with fail
                  refine kw.mono ?_
                  rintro e w6 ⟨rfl, hb6⟩
                  have D6 := bnext D3 hb6
                  have o6 := hid (owns_below o3.out hb6)
                  go_wp2_with fail
                  go_roundw
                  case rel => exact ⟨j + 1, n, L, va, vc, by omega, by omega, rfl, by go_num, hid ⟨o6.out, hLn.out, hTm0.out, hWi0.out⟩, D6⟩
                  case measure => simp [intOf]; omega
                · rw [hm] at km
                  replace hm := hid hm
                  go_wp2_with (first
                    | (refine wpList_load_row rfl 32 (.tmp 9) rfl wr.heap.size rfl 32 (sc s).toArray (0, 0) _ h9.out Try.underlying32 rfl (by kernel_rfl) ?_))
                  refine km.mono ?_
                  rintro e w3 ⟨rfl, hb3⟩
                  have D3 := bnext D hb3
                  have o3 := hid (owns_below hown.out hb3)
                  replace y0 := stay hb3 y0
                  replace y1 := stay hb3 y1
                  replace y2 := stay hb3 y2
                  replace y3 := stay hb3 y3
                  replace y4 := stay hb3 y4
                  have kw := kW.out L va n vc w3 D3 hLn.out (by omega) (owns_cat o3.out) hTm0.out hWi0.out
                  go_wp2_with fail
                  refine kw.mono ?_
                  rintro e w6 ⟨rfl, hb6⟩
                  have D6 := bnext D3 hb6
                  have o6 := hid (owns_below o3.out hb6)
                  go_wp2_with fail
                  go_roundw
                  case rel => exact ⟨j + 1, n, L, va, vc, by omega, by omega, rfl, by go_num, hid ⟨o6.out, hLn.out, hTm0.out, hWi0.out⟩, D6⟩
                  case measure => simp [intOf]; omega
            · have dje : decide ((j : Int) < (en : Int)) = false := decide_eq_false (by omega)
              have hJ := hid (show JAt w2 va L from owns_cat hown.out)
              have km := kM.out L va n vc w2 D hLn.out (by omega) hJ.out
              rcases may_is (L := L) (s := s) hR.out with hm | hm | hm
              · rw [hm] at km
                have hWi2 := hid (hWi0.out.run hR.out hTm0.out (by have := hLn.out; omega) hs.out hm)
                replace hm := hid hm
                go_wp2_with (first
                  | (refine wpList_load_row rfl 32 (.tmp 9) rfl wr.heap.size rfl 32 (sc s).toArray (0, 0) _ h9.out Try.underlying32 rfl (by kernel_rfl) ?_))
                refine km.mono ?_
                rintro e w3 ⟨rfl, hb3⟩
                have D3 := bnext D hb3
                have o3 := hid (owns_below hown.out hb3)
                replace h9 := hid (show w3.heap[wr.heap.size]? = some (.cells (sc s).toArray 32 (0, 0)) by rw [hb3.block _ (Array.getElem?_eq_some_iff.1 h9.out).1]; exact h9.out)
                replace y0 := stay hb3 y0
                replace y1 := stay hb3 y1
                replace y2 := stay hb3 y2
                replace y3 := stay hb3 y3
                replace y4 := stay hb3 y4
                have bl4 := below_lit w3 (.cells (jc (runJ s)).toArray 53)
                have D4 := bnext D3 bl4
                have o4 := hid (owns_below o3.out bl4)
                have hcat := hid (cat_lit w3 53 (jc (runJ s)) (jc (runJ s)).toArray rfl)
                have hone := hid (jc_one (runJ s))
                clear km
                go_wp2_with (first
                  | (refine wpList_load_row rfl 32 (.tmp 9) rfl wr.heap.size rfl 32 (sc s).toArray (0, 0) _ h9.out Try.underlying32 rfl (by kernel_rfl) ?_)
                  | (refine wpList_buildTo rfl 53 _ rfl (some 65) rfl (jc (runJ s)).toArray (by kernel_rfl) ?_)
                  | (refine wpList_one rfl 29 53 (.tmp 65) rfl (jc (runJ s)).toArray 17 i0 _ Try.underlying29 hi hz0 hz1 (by omega) (by omega) rfl rfl ?_)
                  | (at_builtin; refine Hid.out ?_))
                refine wpList_cat _ rfl (.tmp 63) (.tmp 66) 29 rfl w1.heap.size 53 i0 _ 17 184 Try.underlying29 hi hz0 hz1 hz2 rfl (by omega) _ _ _ rfl o4.out (some ⟨w3.heap.size, 0, none⟩) 1 1 (jc (runJ s)) rfl rfl hcat.out hone.out (by unfold maxLen; omega) (by omega) D4.size ?_
                intro v' w5 ho5 hg5 hv5
                have D5 : Below w1.heap.size w1 w5 := Below.grown D4 hg5 D4.size (fun j hj => (o4.out.lt _ hj).1)
                have kp5 := Kp.grown hg5
                have hny : ∀ r v, w3.cell? ⟨w.heap.size, r, none⟩ = some v → w5.cell? ⟨w.heap.size, r, none⟩ = some v := fun r v h => by
                  have h4 := stay bl4 h
                  rw [World.cell?_of_block (w := w3.alloc (.cells (jc (runJ s)).toArray 53)) (a := ⟨w.heap.size, r, none⟩) (kp5.block _ (World.block_lt_of_cell? _ _ h4) (fun e => by have h1 : w1.heap.size ≤ w.heap.size := (o4.out.lt _ e).1; omega))]
                  exact h4
                replace y0 := hny _ _ y0
                replace y1 := hny _ _ y1
                replace y2 := hny _ _ y2
                replace y3 := hny _ _ y3
                replace y4 := hny _ _ y4
                clear hny kp5
                obtain ⟨va2, vc2, e, hvc2⟩ := owns_form ho5
                subst e
                have o5 : Hid (w5.ownsRow w1.heap.size 53 17 (.slice va2 (n + 1) vc2) (n + 1) ((L ++ [runJ s]).flatMap jc)) := hid (by rw [List.flatMap_append]; simpa using ho5)
                have hL5 : Hid ((L ++ [runJ s]).length = n + 1) := hid (by rw [List.length_append, hLn.out]; rfl)
                have hT5 : Hid (∀ j ∈ L ++ [runJ s], Tame j.s) := hid (fun j hj => by
                  rcases List.mem_append.1 hj with h | h
                  · exact hTm0.out j h
                  · rw [List.mem_singleton.1 h]; exact hs.out)
                clear ho5 hg5 hv5 hcat hone
                have kw := kW.out (L ++ [runJ s]) va2 (n + 1) vc2 w5 D5 hL5.out (by omega) (owns_cat o5.out) hT5.out hWi2.out
                go_wp2_with fail
                refine kw.mono ?_
                rintro e w6 ⟨rfl, hb6⟩
                have D6 := bnext D5 hb6
                have o6 := hid (owns_below o5.out hb6)
                go_wp2_with fail
                go_roundw
                case rel => exact ⟨j + 1, n + 1, L ++ [runJ s], va2, vc2, by omega, by omega, rfl, by go_num, hid ⟨o6.out, hL5.out, hT5.out, hWi2.out⟩, D6⟩
                case measure => simp [intOf]; omega
              · rw [hm] at km
                replace hm := hid hm
                go_wp2_with (first
                  | (refine wpList_load_row rfl 32 (.tmp 9) rfl wr.heap.size rfl 32 (sc s).toArray (0, 0) _ h9.out Try.underlying32 rfl (by kernel_rfl) ?_))
                refine km.mono ?_
                rintro e w3 ⟨rfl, hb3⟩
                have D3 := bnext D hb3
                have o3 := hid (owns_below hown.out hb3)
                replace y0 := stay hb3 y0
                replace y1 := stay hb3 y1
                replace y2 := stay hb3 y2
                replace y3 := stay hb3 y3
                replace y4 := stay hb3 y4
                have kw := kW.out L va n vc w3 D3 hLn.out (by omega) (owns_cat o3.out) hTm0.out hWi0.out
                go_wp2_with fail
                refine kw.mono ?_
                rintro e w6 ⟨rfl, hb6⟩
                have D6 := bnext D3 hb6
                have o6 := hid (owns_below o3.out hb6)
                go_wp2_with fail
                go_roundw
                case rel => exact ⟨j + 1, n, L, va, vc, by omega, by omega, rfl, by go_num, hid ⟨o6.out, hLn.out, hTm0.out, hWi0.out⟩, D6⟩
                case measure => simp [intOf]; omega
              · rw [hm] at km
                replace hm := hid hm
                go_wp2_with (first
                  | (refine wpList_load_row rfl 32 (.tmp 9) rfl wr.heap.size rfl 32 (sc s).toArray (0, 0) _ h9.out Try.underlying32 rfl (by kernel_rfl) ?_))
                refine km.mono ?_
                rintro e w3 ⟨rfl, hb3⟩
                have D3 := bnext D hb3
                have o3 := hid (owns_below hown.out hb3)
                replace y0 := stay hb3 y0
                replace y1 := stay hb3 y1
                replace y2 := stay hb3 y2
                replace y3 := stay hb3 y3
                replace y4 := stay hb3 y4
                have kw := kW.out L va n vc w3 D3 hLn.out (by omega) (owns_cat o3.out) hTm0.out hWi0.out
                go_wp2_with fail
                refine kw.mono ?_
                rintro e w6 ⟨rfl, hb6⟩
                have D6 := bnext D3 hb6
                have o6 := hid (owns_below o3.out hb6)
                go_wp2_with fail
                go_roundw
                case rel => exact ⟨j + 1, n, L, va, vc, by omega, by omega, rfl, by go_num, hid ⟨o6.out, hLn.out, hTm0.out, hWi0.out⟩, D6⟩
                case measure => simp [intOf]; omega
        · have hje : j = sn := by omega
          subst hje
          go_wp2_with fail
          refine (awake_any _).mono ?_
          rintro e w2 ⟨rfl, hb2⟩
          have D2 := bnext (bnext D1 hb) hb2
          go_wp2
          go_ret
          exact ⟨rfl, D2⟩

end Go.Proofs.Ytpebhjncdfcmnaa
