/- The document's Right. -/
import Derived.Test.YthjggjjocfbjcaaPlain2
import Derived.Test.YthjggjjocfbjcaaAwake
import Derived.WalkSmall
namespace Go.Proofs.Ythjggjjocfbjcaa
open Go.RowKit

def rgo : Int → List PC → Bool
  | _, [] => true
  | p, y :: r => ((decide (p < y.1) && decide (y.1 ≤ MM)) && okC y) && rgo y.1 r

theorem rgo_eq : ∀ (p : Int) (l : List PC), (riseB p MM (l.map (·.1)) && l.all okC) = rgo p l
  | _, [] => rfl
  | p, y :: r => by
    simp only [List.map_cons, riseB, List.all_cons, rgo, ← rgo_eq y.1 r]
    cases decide (p < y.1) <;> cases decide (y.1 ≤ MM) <;> cases okC y <;> simp

theorem right_rgo (l : List PC) (h : l.length ≤ 16) : rightP l = rgo 0 l := by
  unfold rightP
  rw [decide_eq_true h, Bool.true_and, rgo_eq]

def pvC (L : List CV) : Nat → Int
  | 0 => 0
  | i + 1 => (L[i]?.map CV.id).getD 0
theorem pv_succ {L : List CV} {j : Nat} (hj : j < L.length) : pvC L (j + 1) = L[j].id := by simp [pvC, hj]

theorem rgo_step {p : Int} {L : List CV} {j : Nat} (hj : j < L.length) : rgo p ((L.drop j).map CV.flat) = (((decide (p < L[j].id) && decide (L[j].id ≤ 4611686018427387904)) && ((decide (0 ≤ L[j].fl) && decide (L[j].fl ≤ 4611686018427387904) && decide (L[j].ks.length ≤ 8)) && riseB L[j].fl 4611686018427387904 (L[j].ks.map KV.num))) && rgo L[j].id ((L.drop (j + 1)).map CV.flat)) := by
  rw [List.drop_eq_getElem_cons hj]
  show (((_ && _) && ((_ && _ && decide ((L[j].ks.map KV.flat).length ≤ 8)) && riseB L[j].fl MM ((L[j].ks.map KV.flat).map (·.1)))) && _) = _
  rw [kmap, List.length_map]
  rfl

set_option maxRecDepth 100000 in
set_option maxHeartbeats 8000000 in
theorem rightr_any (a : Option Addr) (n c lo : Nat) (L : List CV) (w : World) (hL : L.length = n) (h : LAt w lo a L) (hn : n ≤ 9000000000000000000) :
    Calls Try.prog 20 #[.slice a n c] w fun e w' => e = .returned (.bool (rightP (L.map CV.flat))) ∧ Below w.heap.size w w' := by
  by_cases h16 : (16 : Int) < n
  · have d1 : decide ((16 : Int) < (n : Int)) = true := by simpa using h16
    have hr : rightP (L.map CV.flat) = false := by
      unfold rightP
      rw [show decide ((L.map CV.flat).length ≤ 16) = false by simp [hL]; omega]
      rfl
    rw [hr]
    replace hL := hid hL
    replace hr := hid hr
    replace h16 := hid h16
    go_enter Try.func20, Try.ntmps20
    go_wp2
    go_ret
    exact ⟨rfl, Below.refl _ _⟩
  · have d1 : decide ((16 : Int) < (n : Int)) = false := by simpa using h16
    have hn16 : n ≤ 16 := by omega
    have h0 := hid (right_rgo (L.map CV.flat) (by rw [List.length_map, hL]; exact hn16))
    replace h16 := hid h16
    replace hL := hid hL
    go_enter Try.func20, Try.ntmps20
    go_wp2_with fail
    go_loopw [3] (fun i wr => ∃ j : Nat, j ≤ n ∧ i = .int .i64 (j : Int) ∧ Hid (rightP (L.map CV.flat) = rgo (pvC L j) ((L.drop j).map CV.flat)) ∧ Hid (0 < j → 1 ≤ pvC L j) ∧ Below w.heap.size w wr) (fun i _ => n - (intOf i).toNat)
    case atStart => exact ⟨0, Nat.zero_le _, rfl, hid (by simpa [pvC] using h0.out), hid (fun h => absurd h (by omega)), Below.refl _ _⟩
    case round =>
      obtain ⟨j, hj, rfl, hre, hpv, hb⟩ := hrel
      by_cases hlt : j < n
      · have hjL : j < L.length := by rw [hL.out]; exact hlt
        obtain ⟨b, o, e⟩ := h.place (by intro e; rw [e] at hjL; simp at hjL)
        subst e
        have hr := h.below hb
        obtain ⟨x0, x1, x2⟩ := hr.one j hjL
        have hk := hr.kept _ (List.getElem_mem hjL)
        obtain ⟨y, hy⟩ : ∃ y, L[j] = y := ⟨_, rfl⟩
        rw [hy] at x0 x1 x2 hk
        obtain ⟨id, fl, ka, kc, ks⟩ := y
        simp only at x0 x1 x2 hk
        obtain ⟨m, hm⟩ : ∃ m, ks.length = m := ⟨_, rfl⟩
        rw [hm] at x2
        replace hm := hid hm
        replace hy := hid hy
        go_wp2_with fail
        have b4 := below_lit wr (.cells #[.int .i64 id, .int .i64 fl, .slice ka m kc] 34)
        have pa := CBlk.new wr (.int .i64 id) (.int .i64 fl) (.slice ka m kc)
        have hk := hk.below b4
        have hra := hr.below b4
        replace hb := bnext hb b4
        obtain ⟨wa, hwa⟩ : ∃ W, W = wr.alloc (.cells #[.int .i64 id, .int .i64 fl, .slice ka m kc] 34) := ⟨_, rfl⟩
        rw [← hwa] at hb hk pa hra ⊢
        generalize wr.heap.size = g4 at pa ⊢
        clear hwa b4 hr x0 x1 x2
        have x0 := pa.cell0
        have x1 := pa.cell1
        have x2 := pa.cell2
        replace hk := hid hk
        replace pa := hid pa
        cases j with
        | zero =>
          have hprev := True.intro
          have hre := hid (show rightP (L.map CV.flat) = rgo 0 ((L.drop 0).map CV.flat) from hre.out)
          obtain ⟨j, hj0⟩ : ∃ j, j = 0 := ⟨_, rfl⟩
          replace hra := hid hra
          have dz : decide ((0 : Int) < 0) = false := rfl
          by_cases e1 : id < 1
          · have g1 : decide (id < 1) = true := decide_eq_true e1
            have s1 : decide (0 < id) = false := decide_eq_false (by omega)
            replace e1 := hid e1
            replace s1 := hid s1
            have hf := hid (hre.out.trans (show _ = false by rw [rgo_step hjL, hy.out, s1.out]; simp))
            go_wp2_with fail
            go_quiet (fail)
            have hb2 := below_drewN hb nq
            go_wp2
            go_ret
            exact ⟨ret_bool hf.out.symm, hb2⟩
          · have g1 : decide (id < 1) = false := decide_eq_false e1
            by_cases e2 : 4611686018427387904 < id
            · have g2 : decide (4611686018427387904 < id) = true := decide_eq_true e2
              have s2 : decide (id ≤ 4611686018427387904) = false := decide_eq_false (by omega)
              replace e1 := hid e1
              replace e2 := hid e2
              replace s2 := hid s2
              have hf := hid (hre.out.trans (show _ = false by rw [rgo_step hjL, hy.out, s2.out]; simp))
              go_wp2_with fail
              go_quiet (fail)
              have hb2 := below_drewN hb nq
              go_wp2
              go_ret
              exact ⟨ret_bool hf.out.symm, hb2⟩
            · have g2 : decide (4611686018427387904 < id) = false := decide_eq_false e2
              have s2 := hid (show decide (id ≤ 4611686018427387904) = true from decide_eq_true (by omega))
              have s1 := hid (show decide (0 < id) = true from decide_eq_true (by omega))
              have e3 := True.intro
              by_cases e4 : fl < 0
              · have g4 : decide (fl < 0) = true := decide_eq_true e4
                have s4 := hid (show decide (0 ≤ fl) = false from decide_eq_false (by omega))
                replace e1 := hid e1
                replace e2 := hid e2
                replace e3 := hid e3
                replace e4 := hid e4
                have hf := hid (hre.out.trans (show _ = false by rw [rgo_step hjL, hy.out, s4.out]; simp))
                go_wp2_with fail
                go_quiet (fail)
                have hb2 := below_drewN hb nq
                go_wp2
                go_ret
                exact ⟨ret_bool hf.out.symm, hb2⟩
              · have g4 : decide (fl < 0) = false := decide_eq_false e4
                have s4 := hid (show decide (0 ≤ fl) = true from decide_eq_true (by omega))
                by_cases e5 : 4611686018427387904 < fl
                · have g5 : decide (4611686018427387904 < fl) = true := decide_eq_true e5
                  have s5 := hid (show decide (fl ≤ 4611686018427387904) = false from decide_eq_false (by omega))
                  replace e1 := hid e1
                  replace e2 := hid e2
                  replace e3 := hid e3
                  replace e4 := hid e4
                  replace e5 := hid e5
                  have hf := hid (hre.out.trans (show _ = false by rw [rgo_step hjL, hy.out, s5.out]; simp))
                  go_wp2_with fail
                  go_quiet (fail)
                  have hb2 := below_drewN hb nq
                  go_wp2
                  go_ret
                  exact ⟨ret_bool hf.out.symm, hb2⟩
                · have g5 : decide (4611686018427387904 < fl) = false := decide_eq_false e5
                  have s5 := hid (show decide (fl ≤ 4611686018427387904) = true from decide_eq_true (by omega))
                  by_cases e6 : (8 : Int) < m
                  · have g6 : decide ((8 : Int) < (m : Int)) = true := decide_eq_true e6
                    have s6 := hid (show decide (ks.length ≤ 8) = false from decide_eq_false (by have := hm.out; omega))
                    replace e1 := hid e1
                    replace e2 := hid e2
                    replace e3 := hid e3
                    replace e4 := hid e4
                    replace e5 := hid e5
                    replace e6 := hid e6
                    have hf := hid (hre.out.trans (show _ = false by rw [rgo_step hjL, hy.out, s6.out]; simp))
                    go_wp2_with fail
                    go_quiet (fail)
                    have hb2 := below_drewN hb nq
                    go_wp2
                    go_ret
                    exact ⟨ret_bool hf.out.symm, hb2⟩
                  · have g6 : decide ((8 : Int) < (m : Int)) = false := decide_eq_false e6
                    have s6 := hid (show decide (ks.length ≤ 8) = true from decide_eq_true (by have := hm.out; omega))
                    have hid0 : 1 ≤ id := by omega
                    have hm8 : m ≤ 8 := by omega
                    replace e1 := hid e1
                    replace e2 := hid e2
                    replace e3 := hid e3
                    replace e4 := hid e4
                    replace e5 := hid e5
                    replace e6 := hid e6
                    have hst := hid (show rightP (L.map CV.flat) = (riseB fl 4611686018427387904 (ks.map KV.num) && rgo id ((L.drop (0 + 1)).map CV.flat)) by rw [hre.out, rgo_step hjL, hy.out, s1.out, s2.out, s4.out, s5.out, s6.out]; simp)
                    go_wp2_with fail
                    go_quiet (fail)
                    have bd : Below wa.heap.size wa (wa.drewN nq) := below_drewN (Below.refl _ _) nq
                    have pa2 := hid (pa.out.below bd)
                    have hk2 := hid (hk.out.below bd)
                    have hb2 := below_drewN hb nq
                    clear bd hb x0 x1 x2 hprev g1 g2 g4 g5 g6
                    generalize wa.drewN nq = wb at *
                    have y1 := pa2.out.cell1
                    have y2 := pa2.out.cell2
                    go_wp2_with fail
                    clear y1 y2
                    go_loopw [5, 6] (fun v i wi => ∃ (t : Nat) (last : Int), t ≤ m ∧ v = .int .i64 last ∧ i = .int .i64 (t : Int) ∧ Hid (riseB fl 4611686018427387904 (ks.map KV.num) = riseB last 4611686018427387904 ((ks.map KV.num).drop t)) ∧ Below wb.heap.size wb wi) (fun _ i _ => m - (intOf i).toNat)
                    case atStart => exact ⟨0, fl, Nat.zero_le _, rfl, rfl, hid (by simp), Below.refl _ _⟩
                    case round =>
                      obtain ⟨t, last, ht, rfl, rfl, hri, hbi⟩ := hrel
                      have y2 := (pa2.out.below hbi).cell2
                      by_cases htm : t < m
                      · have htk : t < ks.length := by rw [hm.out]; exact htm
                        obtain ⟨kb, ko, e⟩ := hk2.out.place (by intro e; rw [e] at htk; simp at htk)
                        subst e
                        obtain ⟨z0, -⟩ := (hk2.out.below hbi).one t htk
                        have hd := rise_drop 4611686018427387904 (ks.map KV.num) t (by simpa using htk) last
                        rw [List.getElem_map] at hd
                        have hri2 := hid (hri.out.trans hd)
                        generalize ks[t].num = X at z0 hri2
                        clear hd
                        by_cases f1 : X ≤ last
                        · have g1 : decide (X ≤ last) = true := decide_eq_true f1
                          have hf := hid (hst.out.trans (show _ = false by rw [hri2.out, show decide (last < X) = false from decide_eq_false (by omega)]; simp))
                          replace f1 := hid f1
                          go_wp2
                          go_ret
                          exact ⟨ret_bool hf.out.symm, bnext hb2 hbi⟩
                        · have g1 : decide (X ≤ last) = false := decide_eq_false f1
                          by_cases f2 : 4611686018427387904 < X
                          · have g2 : decide (4611686018427387904 < X) = true := decide_eq_true f2
                            have hf := hid (hst.out.trans (show _ = false by rw [hri2.out, show decide (X ≤ 4611686018427387904) = false from decide_eq_false (by omega)]; simp))
                            replace f1 := hid f1
                            replace f2 := hid f2
                            go_wp2
                            go_ret
                            exact ⟨ret_bool hf.out.symm, bnext hb2 hbi⟩
                          · have g2 : decide (4611686018427387904 < X) = false := decide_eq_false f2
                            have hnx := hid (hri2.out.trans (show _ = riseB X 4611686018427387904 ((ks.map KV.num).drop (t + 1)) by rw [show decide (last < X) = true from decide_eq_true (by omega), show decide (X ≤ 4611686018427387904) = true from decide_eq_true (by omega)]; simp))
                            replace f1 := hid f1
                            replace f2 := hid f2
                            go_wp2_with fail
                            go_roundw
                            case rel => exact ⟨t + 1, X, by omega, rfl, by go_num, hnx, hbi⟩
                            case measure => simp [intOf]; omega
                      · obtain rfl : t = m := by omega
                        have hfin := hid (show rightP (L.map CV.flat) = rgo (pvC L (0 + 1)) ((L.drop (0 + 1)).map CV.flat) by
                          rw [hst.out, hri.out, List.drop_eq_nil_of_le (by simp [hm.out])]
                          show rgo id _ = _
                          rw [pv_succ hjL, hy.out])
                        have hpos := hid (show 1 ≤ pvC L (0 + 1) by rw [pv_succ hjL, hy.out]; exact hid0)
                        go_wp2_with fail
                        go_roundw
                        case rel => exact ⟨0 + 1, by omega, by go_num, hfin, hid (fun _ => hpos.out), bnext hb2 hbi⟩
                        case measure => simp [intOf]; omega
        | succ i =>
          have hiL : i < L.length := by omega
          have hprev := (hra.one i hiL).1
          have hp1 := hpv.out (by omega)
          rw [pv_succ hiL] at hre hp1
          generalize L[i].id = p at hprev hre hp1
          have hwi : IntKind.i64.wrap (((i + 1 : Nat) : Int) - 1) = (i : Int) := by rw [IntKind.wrap_i64]; omega
          have dz : decide ((0 : Int) < ((i + 1 : Nat) : Int)) = true := decide_eq_true (by omega)
          replace hra := hid hra
          obtain ⟨j, hj0⟩ : ∃ j, j = i + 1 := ⟨_, rfl⟩
          by_cases e1 : id < 1
          · have g1 : decide (id < 1) = true := decide_eq_true e1
            have s1 : decide (p < id) = false := decide_eq_false (by omega)
            replace e1 := hid e1
            replace s1 := hid s1
            have hf := hid (hre.out.trans (show _ = false by rw [rgo_step hjL, hy.out, s1.out]; simp))
            go_wp2_with fail
            go_quiet (fail)
            have hb2 := below_drewN hb nq
            go_wp2
            go_ret
            exact ⟨ret_bool hf.out.symm, hb2⟩
          · have g1 : decide (id < 1) = false := decide_eq_false e1
            by_cases e2 : 4611686018427387904 < id
            · have g2 : decide (4611686018427387904 < id) = true := decide_eq_true e2
              have s2 : decide (id ≤ 4611686018427387904) = false := decide_eq_false (by omega)
              replace e1 := hid e1
              replace e2 := hid e2
              replace s2 := hid s2
              have hf := hid (hre.out.trans (show _ = false by rw [rgo_step hjL, hy.out, s2.out]; simp))
              go_wp2_with fail
              go_quiet (fail)
              have hb2 := below_drewN hb nq
              go_wp2
              go_ret
              exact ⟨ret_bool hf.out.symm, hb2⟩
            · have g2 : decide (4611686018427387904 < id) = false := decide_eq_false e2
              have s2 := hid (show decide (id ≤ 4611686018427387904) = true from decide_eq_true (by omega))
              by_cases e3 : id ≤ p
              · have g3 : decide (id ≤ p) = true := decide_eq_true e3
                have s1 := hid (show decide (p < id) = false from decide_eq_false (by omega))
                replace e1 := hid e1
                replace e2 := hid e2
                replace e3 := hid e3
                have hf := hid (hre.out.trans (show _ = false by rw [rgo_step hjL, hy.out, s1.out]; simp))
                go_wp2_with fail
                go_quiet (fail)
                have hb2 := below_drewN hb nq
                go_wp2
                go_ret
                exact ⟨ret_bool hf.out.symm, hb2⟩
              · have g3 : decide (id ≤ p) = false := decide_eq_false e3
                have s1 := hid (show decide (p < id) = true from decide_eq_true (by omega))
                by_cases e4 : fl < 0
                · have g4 : decide (fl < 0) = true := decide_eq_true e4
                  have s4 := hid (show decide (0 ≤ fl) = false from decide_eq_false (by omega))
                  replace e1 := hid e1
                  replace e2 := hid e2
                  replace e3 := hid e3
                  replace e4 := hid e4
                  have hf := hid (hre.out.trans (show _ = false by rw [rgo_step hjL, hy.out, s4.out]; simp))
                  go_wp2_with fail
                  go_quiet (fail)
                  have hb2 := below_drewN hb nq
                  go_wp2
                  go_ret
                  exact ⟨ret_bool hf.out.symm, hb2⟩
                · have g4 : decide (fl < 0) = false := decide_eq_false e4
                  have s4 := hid (show decide (0 ≤ fl) = true from decide_eq_true (by omega))
                  by_cases e5 : 4611686018427387904 < fl
                  · have g5 : decide (4611686018427387904 < fl) = true := decide_eq_true e5
                    have s5 := hid (show decide (fl ≤ 4611686018427387904) = false from decide_eq_false (by omega))
                    replace e1 := hid e1
                    replace e2 := hid e2
                    replace e3 := hid e3
                    replace e4 := hid e4
                    replace e5 := hid e5
                    have hf := hid (hre.out.trans (show _ = false by rw [rgo_step hjL, hy.out, s5.out]; simp))
                    go_wp2_with fail
                    go_quiet (fail)
                    have hb2 := below_drewN hb nq
                    go_wp2
                    go_ret
                    exact ⟨ret_bool hf.out.symm, hb2⟩
                  · have g5 : decide (4611686018427387904 < fl) = false := decide_eq_false e5
                    have s5 := hid (show decide (fl ≤ 4611686018427387904) = true from decide_eq_true (by omega))
                    by_cases e6 : (8 : Int) < m
                    · have g6 : decide ((8 : Int) < (m : Int)) = true := decide_eq_true e6
                      have s6 := hid (show decide (ks.length ≤ 8) = false from decide_eq_false (by have := hm.out; omega))
                      replace e1 := hid e1
                      replace e2 := hid e2
                      replace e3 := hid e3
                      replace e4 := hid e4
                      replace e5 := hid e5
                      replace e6 := hid e6
                      have hf := hid (hre.out.trans (show _ = false by rw [rgo_step hjL, hy.out, s6.out]; simp))
                      go_wp2_with fail
                      go_quiet (fail)
                      have hb2 := below_drewN hb nq
                      go_wp2
                      go_ret
                      exact ⟨ret_bool hf.out.symm, hb2⟩
                    · have g6 : decide ((8 : Int) < (m : Int)) = false := decide_eq_false e6
                      have s6 := hid (show decide (ks.length ≤ 8) = true from decide_eq_true (by have := hm.out; omega))
                      have hid0 : 1 ≤ id := by omega
                      have hm8 : m ≤ 8 := by omega
                      replace e1 := hid e1
                      replace e2 := hid e2
                      replace e3 := hid e3
                      replace e4 := hid e4
                      replace e5 := hid e5
                      replace e6 := hid e6
                      have hst := hid (show rightP (L.map CV.flat) = (riseB fl 4611686018427387904 (ks.map KV.num) && rgo id ((L.drop (i + 1 + 1)).map CV.flat)) by rw [hre.out, rgo_step hjL, hy.out, s1.out, s2.out, s4.out, s5.out, s6.out]; simp)
                      go_wp2_with fail
                      go_quiet (fail)
                      have bd : Below wa.heap.size wa (wa.drewN nq) := below_drewN (Below.refl _ _) nq
                      have pa2 := hid (pa.out.below bd)
                      have hk2 := hid (hk.out.below bd)
                      have hb2 := below_drewN hb nq
                      clear bd hb x0 x1 x2 hprev g1 g2 g4 g5 g6 g3
                      generalize wa.drewN nq = wb at *
                      have y1 := pa2.out.cell1
                      have y2 := pa2.out.cell2
                      go_wp2_with fail
                      clear y1 y2
                      go_loopw [5, 6] (fun v i wi => ∃ (t : Nat) (last : Int), t ≤ m ∧ v = .int .i64 last ∧ i = .int .i64 (t : Int) ∧ Hid (riseB fl 4611686018427387904 (ks.map KV.num) = riseB last 4611686018427387904 ((ks.map KV.num).drop t)) ∧ Below wb.heap.size wb wi) (fun _ i _ => m - (intOf i).toNat)
                      case atStart => exact ⟨0, fl, Nat.zero_le _, rfl, rfl, hid (by simp), Below.refl _ _⟩
                      case round =>
                        obtain ⟨t, last, ht, rfl, rfl, hri, hbi⟩ := hrel
                        have y2 := (pa2.out.below hbi).cell2
                        by_cases htm : t < m
                        · have htk : t < ks.length := by rw [hm.out]; exact htm
                          obtain ⟨kb, ko, e⟩ := hk2.out.place (by intro e; rw [e] at htk; simp at htk)
                          subst e
                          obtain ⟨z0, -⟩ := (hk2.out.below hbi).one t htk
                          have hd := rise_drop 4611686018427387904 (ks.map KV.num) t (by simpa using htk) last
                          rw [List.getElem_map] at hd
                          have hri2 := hid (hri.out.trans hd)
                          generalize ks[t].num = X at z0 hri2
                          clear hd
                          by_cases f1 : X ≤ last
                          · have g1 : decide (X ≤ last) = true := decide_eq_true f1
                            have hf := hid (hst.out.trans (show _ = false by rw [hri2.out, show decide (last < X) = false from decide_eq_false (by omega)]; simp))
                            replace f1 := hid f1
                            go_wp2
                            go_ret
                            exact ⟨ret_bool hf.out.symm, bnext hb2 hbi⟩
                          · have g1 : decide (X ≤ last) = false := decide_eq_false f1
                            by_cases f2 : 4611686018427387904 < X
                            · have g2 : decide (4611686018427387904 < X) = true := decide_eq_true f2
                              have hf := hid (hst.out.trans (show _ = false by rw [hri2.out, show decide (X ≤ 4611686018427387904) = false from decide_eq_false (by omega)]; simp))
                              replace f1 := hid f1
                              replace f2 := hid f2
                              go_wp2
                              go_ret
                              exact ⟨ret_bool hf.out.symm, bnext hb2 hbi⟩
                            · have g2 : decide (4611686018427387904 < X) = false := decide_eq_false f2
                              have hnx := hid (hri2.out.trans (show _ = riseB X 4611686018427387904 ((ks.map KV.num).drop (t + 1)) by rw [show decide (last < X) = true from decide_eq_true (by omega), show decide (X ≤ 4611686018427387904) = true from decide_eq_true (by omega)]; simp))
                              replace f1 := hid f1
                              replace f2 := hid f2
                              go_wp2_with fail
                              go_roundw
                              case rel => exact ⟨t + 1, X, by omega, rfl, by go_num, hnx, hbi⟩
                              case measure => simp [intOf]; omega
                        · obtain rfl : t = m := by omega
                          have hfin := hid (show rightP (L.map CV.flat) = rgo (pvC L (i + 1 + 1)) ((L.drop (i + 1 + 1)).map CV.flat) by
                            rw [hst.out, hri.out, List.drop_eq_nil_of_le (by simp [hm.out])]
                            show rgo id _ = _
                            rw [pv_succ hjL, hy.out])
                          have hpos := hid (show 1 ≤ pvC L (i + 1 + 1) by rw [pv_succ hjL, hy.out]; exact hid0)
                          go_wp2_with fail
                          go_roundw
                          case rel => exact ⟨i + 1 + 1, by omega, by go_num, hfin, hid (fun _ => hpos.out), bnext hb2 hbi⟩
                          case measure => simp [intOf]; omega
      · obtain rfl : j = n := by omega
        have hf := hid (show rightP (L.map CV.flat) = true by rw [hre.out, List.drop_eq_nil_of_le (by rw [hL.out]; exact Nat.le_refl _)]; rfl)
        go_wp2
        go_ret
        exact ⟨ret_bool hf.out.symm, hb⟩

end Go.Proofs.Ythjggjjocfbjcaa
