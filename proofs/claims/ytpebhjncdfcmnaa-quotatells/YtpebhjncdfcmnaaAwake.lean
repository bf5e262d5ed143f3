/- The chapter's examples. -/
import Derived.Test.YtpebhjncdfcmnaaMay
import Derived.Test.YtpebhjncdfcmnaaCp2
namespace Go.Proofs.Ytpebhjncdfcmnaa
open Go.RowKit
set_option linter.unusedVariables false

theorem wp_callc {Q : Exit → Act → World → Prop} {a : Act} {w : World} {K : Act → World → Prop} {o : Oper} (f : FuncId) (x : Operand) (args : Array Operand) (tys : Array TypeId)
    (ho : o.op = .call { callee := .value x, args := args, argTypes := tys }) (hx : a.eval x = .func (.func f) #[] #[]) (fn : Func) (hf : Try.prog.funcs[f]? = some fn) (hn : (fn.name == "runtime.NumGoroutine") = false) (hbd : fn.body.isNone = false) (vals : Array Value) (hv : args.map a.eval = vals) {post : Ending → World → Prop} (hc : Calls Try.prog f vals w post)
    (hK : ∀ e w', post e w' → ∃ v, e = .returned v ∧ K (a.put o.dst v) w') : Oper.wp Try.prog o a w K Q := by
  have he : (execOp a.eval o).run Try.prog w = .ok (.enter f vals) w := by
    subst hv
    have hn' : ¬ fn.name = "runtime.NumGoroutine" := by simpa using hn
    have hbd' : ¬ fn.body = none := by intro e; rw [e] at hbd; cases hbd
    simp [execOp, ho, resolve, invoke, hx, Deferred.ofValue, callFunc, hf, hn', hbd']
  unfold Oper.wp
  rw [he, Oper.upon_enter]
  refine hc.mono ?_
  intro e w' h
  obtain ⟨v, rfl, hk⟩ := hK e w' h
  exact hk

abbrev sAll : ByteArray := ⟨#[97, 108, 108]⟩
abbrev sPhys : ByteArray := ⟨#[112, 104, 121, 115]⟩
abbrev sNorm : ByteArray := ⟨#[110, 111, 114, 109, 97, 108]⟩
abbrev sNo : ByteArray := ⟨#[]⟩
def A0 : List Acc := [(sAll, sNo, 10), (sPhys, sAll, 8)]
def Q0 : List Qu := [(sNorm, 0, -1, 2)]
def awS (n : ByteArray) (c : Int) : Spc := ⟨sNo, n, sNorm, sNo, 1, c, 0, none, 0, 0⟩
def J0 : Job := ⟨0, 0, 0, ⟨sNo, sPhys, sNorm, sNo, 2, 3, 0, none, 0, 0⟩, 2, 0, 0, 0, 0, 0⟩
def J1 : Job := ⟨0, 0, 0, awS sAll 1, 2, 0, 0, 0, 0, 0⟩

theorem spec22 (n : ByteArray) (c : Int) (w : World) : Calls Try.prog 22 #[.string n, .int .i64 c] w fun e w' => e = .returned (.agg (sc (awS n c)).toArray) ∧ Below w.heap.size w w' := by
  go_enter Try.func22, Try.ntmps22
  go_wp2
  (try simp only [Exit.inBlock, Exit.then])
  refine bodyPost_ret (results_cell_row rfl _ _ w.heap.size 32 (sc (awS n c)).toArray (0, 0) _ rfl (heap_alloc_new w _) Try.underlying32 rfl (by kernel_rfl)) rfl ?_
  exact ⟨rfl, below_lit _ _⟩

theorem a_conf : confB A0 Q0 = true := by decide +kernel
theorem a_cval : cVal A0 Q0 [J0] sAll = 6 := by decide +kernel
theorem a_cerr : cErr A0 Q0 sAll = 0 := by decide +kernel
theorem a_qval : qVal A0 Q0 [J0] sNorm = 6 := by decide +kernel
theorem a_qnum : qNum A0 Q0 [J0] sNorm = 1 := by decide +kernel
theorem a_qerr : qErr A0 Q0 sNorm = 0 := by decide +kernel
theorem a_may1 : mayP A0 Q0 [J0] (awS sPhys 2) = 0 := by decide +kernel
theorem a_may2 : mayP A0 Q0 [J0] (awS sPhys 3) = 150 := by decide +kernel
theorem a_may3 : mayP A0 Q0 [J0] (awS sAll 4) = 0 := by decide +kernel
theorem a_may4' : mayP A0 Q0 [J0, J1] (awS sAll 1) = 150 := by decide +kernel

theorem may_cnt {A : List Acc} {Q : List Qu} {L L' : List Job} (h1 : ∀ n, cntP (onP A n) L' = cntP (onP A n) L) (h2 : ∀ n, cntP (inP n) L' = cntP (inP n) L) (s : Spc) : mayP A Q L' s = mayP A Q L s := by
  have e1 : abd A L' s = abd A L s := by funext n; unfold abd; rw [h1]
  have e2 : ∀ q, qbd q L' s = qbd q L s := fun q => by unfold qbd; rw [h2]
  unfold mayP
  rw [e1]
  simp only [e2]
theorem a_may4 (x : Option Addr) (y : Nat) : mayP A0 Q0 [J0.re x y, J1] (awS sAll 1) = 150 := by
  exact (may_cnt (A := A0) (Q := Q0) (L := [J0, J1]) (L' := [J0.re x y, J1]) (fun n => rfl) (fun n => rfl) (awS sAll 1)).trans a_may4'

def pv8 (g0 g1 g2 g3 : Nat) (va : Option Addr) (vc : Nat) : List Value := [.agg #[.slice none 0 0, .slice none 0 0, .slice (some ⟨g0, 0, none⟩) 2 2, .slice (some ⟨g1, 0, none⟩) 1 1, .int .u8 0], .bool true, .bool true, .int .i64 6, .bool true, .bool true, .bool true, .int .i64 0, .bool true, .bool true, .bool true, .int .i64 6, .bool true, .bool true, .bool true, .int .i64 1, .bool true, .bool true, .bool true, .int .i64 0, .bool true, .bool true, .bool true, .agg #[.slice none 0 0, .slice none 0 0, .slice (some ⟨g0, 0, none⟩) 2 2, .slice (some ⟨g1, 0, none⟩) 1 1, .int .u8 0], .slice (some ⟨g3, 0, none⟩) 1 1, .func (.func 22) #[] #[], .agg (sc (awS sPhys 2)).toArray, .int .i64 0, .bool true, .bool true, .bool true, .agg #[.slice none 0 0, .slice none 0 0, .slice (some ⟨g0, 0, none⟩) 2 2, .slice (some ⟨g1, 0, none⟩) 1 1, .int .u8 0], .slice (some ⟨g3, 0, none⟩) 1 1, .func (.func 22) #[] #[], .agg (sc (awS sPhys 3)).toArray, .int .i64 150, .bool true, .bool true, .bool true, .agg #[.slice none 0 0, .slice none 0 0, .slice (some ⟨g0, 0, none⟩) 2 2, .slice (some ⟨g1, 0, none⟩) 1 1, .int .u8 0], .slice (some ⟨g3, 0, none⟩) 1 1, .func (.func 22) #[] #[], .agg (sc (awS sAll 4)).toArray, .int .i64 0, .bool true, .bool true, .bool true, .agg #[.slice none 0 0, .slice none 0 0, .slice (some ⟨g0, 0, none⟩) 2 2, .slice (some ⟨g1, 0, none⟩) 1 1, .int .u8 0], .slice va 2 vc, .func (.func 22) #[] #[], .agg (sc (awS sAll 1)).toArray, .int .i64 150, .bool true, .bool true, .bool true]

set_option maxRecDepth 100000 in
set_option maxHeartbeats 4000000 in
theorem awake_any (w : World) : Calls Try.prog 8 #[] w fun e w' => e = .returned (.bool true) ∧ Below w.heap.size w w' := by
  obtain ⟨i0, hi, hz0, hz1, hz2⟩ := info_parts info53
  obtain ⟨c0, hc0⟩ : ∃ c : Array Value, c = #[.string sAll, .string sNo, .int .i64 10, .string sPhys, .string sAll, .int .i64 8] := ⟨_, rfl⟩
  obtain ⟨c1, hc1⟩ : ∃ c : Array Value, c = #[.string sNorm, .int .i64 0, .int .i64 (-1), .int .i64 2] := ⟨_, rfl⟩
  obtain ⟨w1, hw1⟩ : ∃ w1, w1 = w.alloc (.cells c0 57) := ⟨_, rfl⟩
  obtain ⟨w2, hw2⟩ : ∃ w2, w2 = w1.alloc (.cells c1 59) := ⟨_, rfl⟩
  obtain ⟨c2, hc2⟩ : ∃ c : Array Value, c = #[.slice none 0 0, .slice none 0 0, .slice (some ⟨w.heap.size, 0, none⟩) 2 2, .slice (some ⟨w.heap.size + 1, 0, none⟩) 1 1, .int .u8 0] := ⟨_, rfl⟩
  obtain ⟨w3, hw3⟩ : ∃ w3, w3 = w2.alloc (.cells c2 28) := ⟨_, rfl⟩
  obtain ⟨c3, hc3⟩ : ∃ c : Array Value, c = #[.int .i64 0, .int .i64 0, .int .i64 0, .string sNo, .string sPhys, .string sNorm, .string sNo, .int .i64 2, .int .i64 3, .int .i64 0, .slice none 0 0, .int .u8 2, .int .i64 0, .int .i64 0, .int .i64 0, .int .u32 0, .int .i64 0] := ⟨_, rfl⟩
  obtain ⟨w4, hw4⟩ : ∃ w4, w4 = w3.alloc (.cells c3 53) := ⟨_, rfl⟩
  have b1 : Below w.heap.size w w1 := by rw [hw1]; exact below_lit _ _
  have b2 : Below w1.heap.size w1 w2 := by rw [hw2]; exact below_lit _ _
  have b3 : Below w2.heap.size w2 w3 := by rw [hw3]; exact below_lit _ _
  have b4 : Below w3.heap.size w3 w4 := by rw [hw4]; exact below_lit _ _
  have s1 : w1.heap.size = w.heap.size + 1 := by rw [hw1, size_lit]
  have s2 : w2.heap.size = w.heap.size + 1 + 1 := by rw [hw2, size_lit, s1]
  have s3 : w3.heap.size = w.heap.size + 1 + 1 + 1 := by rw [hw3, size_lit, s2]
  have hA : AAt w4 (some ⟨w.heap.size, 0, none⟩) A0 := by
    refine CAt.below (w := w1) ?_ (bnext b2 (bnext b3 b4))
    rw [hw1]; exact cat_lit w 57 _ c0 (by rw [hc0]; rfl)
  have hQ : QAt w4 (some ⟨w.heap.size + 1, 0, none⟩) Q0 := by
    rw [← s1]
    refine CAt.below (w := w2) ?_ (bnext b3 b4)
    rw [hw2]; exact cat_lit w1 59 _ c1 (by rw [hc1]; rfl)
  have hJ : JAt w4 (some ⟨w.heap.size + 1 + 1 + 1, 0, none⟩) [J0] := by
    rw [← s3, hw4]; exact cat_lit w3 53 _ c3 (by rw [hc3]; rfl)
  have vv : ∀ r v, c2[r]? = some v → w4.cell? ⟨w.heap.size + 1 + 1, r, none⟩ = some v := fun r v h => by
    rw [← s2]
    refine stay b4 ?_
    rw [hw3]; exact lit_cell w2 28 c2 r v h
  have v0 := vv 0 (.slice none 0 0) (by rw [hc2]; rfl)
  have v1 := vv 1 (.slice none 0 0) (by rw [hc2]; rfl)
  have v2 := vv 2 (.slice (some ⟨w.heap.size, 0, none⟩) 2 2) (by rw [hc2]; rfl)
  have v3 := vv 3 (.slice (some ⟨w.heap.size + 1, 0, none⟩) 1 1) (by rw [hc2]; rfl)
  have v4 := vv 4 (.int .u8 0) (by rw [hc2]; rfl)
  clear vv
  have B4 : Below w.heap.size w w4 := bnext b1 (bnext b2 (bnext b3 b4))
  have kC := fun wx (hb : Below w4.heap.size w4 wx) => cores_any none none (some ⟨w.heap.size, 0, none⟩) (some ⟨(w.heap.size + 1), 0, none⟩) 0 0 0 0 2 2 1 1 0 A0 Q0 (some ⟨(w.heap.size + 1 + 1 + 1), 0, none⟩) 1 1 [J0] sAll wx rfl (Nat.le_refl _) rfl (hA.below hb) (hQ.below hb) rfl (by omega) (hJ.below hb)
  rw [a_cval, a_cerr] at kC
  have kQ := fun wx (hb : Below w4.heap.size w4 wx) => qos_any none none (some ⟨w.heap.size, 0, none⟩) (some ⟨(w.heap.size + 1), 0, none⟩) 0 0 0 0 2 2 1 1 0 A0 Q0 (some ⟨(w.heap.size + 1 + 1 + 1), 0, none⟩) 1 1 [J0] sNorm wx rfl (Nat.le_refl _) rfl (hA.below hb) (hQ.below hb) rfl (by omega) (hJ.below hb)
  rw [a_qval, a_qnum, a_qerr] at kQ
  have kR0 := fun wx (hb : Below w4.heap.size w4 wx) => conf_any none none (some ⟨w.heap.size, 0, none⟩) (some ⟨(w.heap.size + 1), 0, none⟩) 0 0 0 0 2 2 1 1 0 A0 Q0 wx rfl (Nat.le_refl _) rfl (hA.below hb) (hQ.below hb)
  rw [a_conf] at kR0
  have kM := fun s wx (hb : Below w4.heap.size w4 wx) => may_any none none (some ⟨w.heap.size, 0, none⟩) (some ⟨(w.heap.size + 1), 0, none⟩) 0 0 0 0 2 2 1 1 0 A0 Q0 (some ⟨(w.heap.size + 1 + 1 + 1), 0, none⟩) 1 1 [J0] s wx rfl (Nat.le_refl _) rfl (hA.below hb) (hQ.below hb) rfl (by omega) (hJ.below hb)
  have kN := fun L (hl : List.length L = 2) va vc wx (hb : Below w4.heap.size w4 wx) (h : JAt wx va L) => may_any none none (some ⟨w.heap.size, 0, none⟩) (some ⟨(w.heap.size + 1), 0, none⟩) 0 0 0 0 2 2 1 1 0 A0 Q0 va 2 vc L (awS sAll 1) wx rfl (Nat.le_refl _) rfl (hA.below hb) (hQ.below hb) hl (by omega) h
  have kP := fun wx (hb : Below w4.heap.size w4 wx) => copyJ (some ⟨(w.heap.size + 1 + 1 + 1), 0, none⟩) 1 1 [(J0, [])] wx rfl (by omega) (hJ.below hb) (fun p hp => by rw [List.mem_singleton.1 hp]; exact ⟨rfl, DAt.nil _ _, by decide⟩)
  have kS := fun w => spec22 sAll 1 w
  rw [show (sc (awS sAll 1)).toArray = #[.string ⟨#[]⟩, .string ⟨#[97, 108, 108]⟩, .string ⟨#[110, 111, 114, 109, 97, 108]⟩, .string ⟨#[]⟩, .int .i64 1, .int .i64 1, .int .i64 0, .slice none 0 0] from rfl] at kS
  replace hA := hid hA
  replace hQ := hid hQ
  replace hJ := hid hJ
  replace kC := hid kC
  replace kQ := hid kQ
  replace kR0 := hid kR0
  replace kM := hid kM
  replace kN := hid kN
  replace kP := hid kP
  replace kS := hid kS
  replace v0 := hid v0
  replace v1 := hid v1
  replace v2 := hid v2
  replace v3 := hid v3
  replace v4 := hid v4
  replace s1 := hid s1
  replace s2 := hid s2
  replace s3 := hid s3
  go_enter Try.func8, Try.ntmps8
  go_wp2_with fail
  rw [← hc0, ← hc1, ← hc3, ← hw1, ← hw2]
  rw [show w2.alloc (.cells _ 28) = w3 by rw [hw3, hc2]]
  rw [← hw4]
  replace hw1 := hid hw1
  replace hw2 := hid hw2
  replace hw3 := hid hw3
  replace hw4 := hid hw4
  replace hc0 := hid hc0
  replace hc1 := hid hc1
  replace hc2 := hid hc2
  replace hc3 := hid hc3
  clear b1 b2 b3 b4
  refine (kC.out _ (Below.refl _ _)).mono ?_
  rintro e w5 ⟨rfl, h5⟩
  have x0 := stay h5 v0.out
  have x1 := stay h5 v1.out
  have x2 := stay h5 v2.out
  have x3 := stay h5 v3.out
  have x4 := stay h5 v4.out
  go_wp2_with fail
  refine (kQ.out _ h5).mono ?_
  rintro e w6 ⟨rfl, hb6⟩
  have h6 := bnext h5 hb6
  clear x0 x1 x2 x3 x4
  go_wp2_with fail
  refine (kP.out _ h6).mono ?_
  rintro e w7 ⟨ra, rc, M', rfl, hrc, hJO, hre, hb7⟩
  have h7 := bnext h6 hb7
  obtain ⟨x, y, hM⟩ : ∃ x y, M' = [(J0.re x y, [])] := by
    rcases M' with _ | ⟨q, t⟩
    · cases hre
    · obtain ⟨⟨x, y, h1⟩, h2, h3⟩ := hre
      rcases t with _ | ⟨q2, t⟩
      · exact ⟨x, y, by obtain ⟨q1, q2⟩ := q; simp only at h1 h2; rw [h1, h2]⟩
      · cases h3
  subst hM
  have hown := hJO.own
  replace hJO := hid hJO
  replace hre := hid hre
  replace hown := hid hown
  go_wp2_with fail
  refine (kS.out _).mono ?_
  rintro e w8 ⟨rfl, hb8⟩
  have h8 := bnext h7 hb8
  have bl := below_lit w8 (.cells #[.int .i64 0, .int .i64 0, .int .i64 0, .string ⟨#[]⟩, .string ⟨#[97, 108, 108]⟩, .string ⟨#[110, 111, 114, 109, 97, 108]⟩, .string ⟨#[]⟩, .int .i64 1, .int .i64 1, .int .i64 0, .slice none 0 0, .int .u8 2, .int .i64 0, .int .i64 0, .int .i64 0, .int .u32 0, .int .i64 0] 53)
  have hcat := hid (cat_lit w8 53 (jc J1) #[.int .i64 0, .int .i64 0, .int .i64 0, .string ⟨#[]⟩, .string ⟨#[97, 108, 108]⟩, .string ⟨#[110, 111, 114, 109, 97, 108]⟩, .string ⟨#[]⟩, .int .i64 1, .int .i64 1, .int .i64 0, .slice none 0 0, .int .u8 2, .int .i64 0, .int .i64 0, .int .i64 0, .int .u32 0, .int .i64 0] rfl)
  have h9 := bnext h8 bl
  have hown2 := hid (owns_low (owns_below (owns_below hown.out hb8) bl) h6.size)
  go_wp2_with (at_builtin; refine Hid.out ?_)
  refine wpList_cat _ rfl (.tmp 33) (.tmp 37) 29 rfl w4.heap.size 53 i0 _ 17 184 Try.underlying29 hi hz0 hz1 hz2 rfl (by omega) _ _ _ rfl hown2.out (some ⟨w8.heap.size, 0, none⟩) 1 1 (jc J1) rfl rfl hcat.out (jc_one J1) (by unfold maxLen; simp only [List.length_cons, List.length_nil]; omega) (by simp only [List.length_cons, List.length_nil]; omega) h9.size ?_
  intro v' w10 ho10 hg10 hv10
  have h10 : Below w4.heap.size w4 w10 := Below.grown h9 hg10 h9.size (fun j hj => (hown2.out.lt _ hj).1)
  obtain ⟨va, vc, e, hvc⟩ := owns_form ho10
  subst e
  have hJ2 : JAt w10 va [J0.re x y, J1] := owns_cat ho10
  clear ho10 hg10 hv10 hcat hown2 bl
  have kR := hid (fun wx (hb : Below w10.heap.size w10 wx) => kR0.out wx (bnext h10 hb))
  have kM1 := hid (fun wx (hb : Below w10.heap.size w10 wx) => kM.out (awS sPhys 2) wx (bnext h10 hb))
  have kM2 := hid (fun wx (hb : Below w10.heap.size w10 wx) => kM.out (awS sPhys 3) wx (bnext h10 hb))
  have kM3 := hid (fun wx (hb : Below w10.heap.size w10 wx) => kM.out (awS sAll 4) wx (bnext h10 hb))
  have kM4 := hid (fun wx (hb : Below w10.heap.size w10 wx) => kN.out [J0.re x y, J1] rfl va vc wx (bnext h10 hb) (hJ2.below hb))
  rw [a_may1] at kM1
  rw [a_may2] at kM2
  rw [a_may3] at kM3
  rw [a_may4] at kM4
  have B10 := bnext B4 h10
  replace v0 := hid (stay h10 v0.out)
  replace v1 := hid (stay h10 v1.out)
  replace v2 := hid (stay h10 v2.out)
  replace v3 := hid (stay h10 v3.out)
  replace v4 := hid (stay h10 v4.out)
  clear kC kQ kP kM kN kR0
  replace hJ2 := hid hJ2
  go_wp2_with fail
  replace kR := kR.out
  replace kM1 := kM1.out
  replace kM2 := kM2.out
  replace kM3 := kM3.out
  replace kM4 := kM4.out
  replace v0 := v0.out
  replace v1 := v1.out
  replace v2 := v2.out
  replace v3 := v3.out
  replace v4 := v4.out
  generalize w.heap.size + 1 + 1 + 1 = g3 at kM1 kM2 kM3 ⊢
  generalize w.heap.size + 1 + 1 = g2 at v0 v1 v2 v3 v4 ⊢
  generalize w.heap.size + 1 = g1 at v3 kR kM1 kM2 kM3 kM4 ⊢
  generalize w.heap.size = g0 at v2 kR kM1 kM2 kM3 kM4 ⊢
  refine wp_region_drawn (Rel := fun w w' => Below w.heap.size w w') (Pr := PrV (pv8 g0 g1 g2 g3 va vc) [] (fun _ _ _ => True)) (by kernel_rfl) (by kernel_rfl) (drew_below _) bel_tr (PrV.mono (fun _ _ _ _ _ _ => trivial)) ?_ ?_
  · refine ⟨?_, ?_, ?_, ?_, ?_, ?_, ?_, ?_, ?_, ?_, ?_, ?_, ?_, ?_, ?_, ?_, ?_, ?_, ?_, ?_, ?_, ?_, ?_, ?_, ?_, ?_, ?_, ?_, ?_, ?_, ?_, ?_, ?_, ?_, ?_, ?_, ?_, ?_, ?_, ?_, ?_, ?_, ?_, ?_, ?_, ?_, ?_, ?_, ?_, ?_, ?_, ?_, ?_, ?_, ?_, trivial⟩
    · intro ac w hR hd hk K hK
      have e1 : ac.tmps[1]?.getD undef = (.pointer (some ⟨g2, 0, none⟩) : Value) := slot (get_keep (hk 1 (no_dst (by kernel_rfl))) rfl)
      have x0 := stay hR v0
      have x1 := stay hR v1
      have x2 := stay hR v2
      have x3 := stay hR v3
      have x4 := stay hR v4
      refine yes (want_n rfl) ?_
      have hv := hid (hK (.agg #[.slice none 0 0, .slice none 0 0, .slice (some ⟨g0, 0, none⟩) 2 2, .slice (some ⟨g1, 0, none⟩) 1 1, .int .u8 0]) w (PrV.is rfl rfl) (Below.refl _ _))
      go_simp
      refine kq hv.out ?_
      rfl
    · exact fun ac w hR hd hk K hK => yes (want_n rfl) (wp_callv 15 _ _ rfl _ Try.func15 rfl rfl _ (args1 ((hd 0 _ 39 rfl rfl rfl).val rfl)) (kR w hR) (by rintro e w' ⟨rfl, hb⟩; exact ⟨_, rfl, hK _ w' (PrV.is rfl rfl) (hb)⟩))
    · exact fun ac w hR hd hk K hK => yes (want_n rfl) (wp_mv _ rfl _ ((hd 1 _ 40 rfl rfl rfl).val rfl) (hK _ w (PrV.is rfl rfl) (Below.refl _ _)))
    · exact fun ac w hR hd hk K hK => yes (want_g rfl rfl ((hd 2 _ 41 rfl rfl rfl).val rfl)) (wp_mv _ rfl _ (get_keep (hk 4 (no_dst (by kernel_rfl))) rfl) (hK _ w (PrV.is rfl rfl) (Below.refl _ _)))
    · intro ac w hR hd hk K hK
      have e42 : ac.tmps[42]?.getD undef = (.int .i64 6 : Value) := slot ((hd 3 _ 42 rfl rfl rfl).val rfl)
      refine yes (want_g rfl rfl ((hd 2 _ 41 rfl rfl rfl).val rfl)) ?_
      have hv := hid (hK (.bool true) w (PrV.is rfl rfl) (Below.refl _ _))
      go_simp
      refine kq hv.out ?_
      rfl
    · exact fun ac w hR hd hk K hK => yes (want_n rfl) (wp_pick _ _ _ rfl true _ ((hd 2 _ 41 rfl rfl rfl).val rfl) ((hd 4 _ 43 rfl rfl rfl).val rfl) (hK _ w (PrV.is rfl rfl) (Below.refl _ _)))
    · exact fun ac w hR hd hk K hK => yes (want_n rfl) (wp_mv _ rfl _ ((hd 5 _ 44 rfl rfl rfl).val rfl) (hK _ w (PrV.is rfl rfl) (Below.refl _ _)))
    · exact fun ac w hR hd hk K hK => yes (want_g rfl rfl ((hd 6 _ 45 rfl rfl rfl).val rfl)) (wp_mv _ rfl _ (get_keep (hk 5 (no_dst (by kernel_rfl))) rfl) (hK _ w (PrV.is rfl rfl) (Below.refl _ _)))
    · intro ac w hR hd hk K hK
      have e46 : ac.tmps[46]?.getD undef = (.int .i64 0 : Value) := slot ((hd 7 _ 46 rfl rfl rfl).val rfl)
      refine yes (want_g rfl rfl ((hd 6 _ 45 rfl rfl rfl).val rfl)) ?_
      have hv := hid (hK (.bool true) w (PrV.is rfl rfl) (Below.refl _ _))
      go_simp
      refine kq hv.out ?_
      rfl
    · exact fun ac w hR hd hk K hK => yes (want_n rfl) (wp_pick _ _ _ rfl true _ ((hd 6 _ 45 rfl rfl rfl).val rfl) ((hd 8 _ 47 rfl rfl rfl).val rfl) (hK _ w (PrV.is rfl rfl) (Below.refl _ _)))
    · exact fun ac w hR hd hk K hK => yes (want_n rfl) (wp_mv _ rfl _ ((hd 9 _ 48 rfl rfl rfl).val rfl) (hK _ w (PrV.is rfl rfl) (Below.refl _ _)))
    · exact fun ac w hR hd hk K hK => yes (want_g rfl rfl ((hd 10 _ 49 rfl rfl rfl).val rfl)) (wp_mv _ rfl _ (get_keep (hk 6 (no_dst (by kernel_rfl))) rfl) (hK _ w (PrV.is rfl rfl) (Below.refl _ _)))
    · intro ac w hR hd hk K hK
      have e50 : ac.tmps[50]?.getD undef = (.int .i64 6 : Value) := slot ((hd 11 _ 50 rfl rfl rfl).val rfl)
      refine yes (want_g rfl rfl ((hd 10 _ 49 rfl rfl rfl).val rfl)) ?_
      have hv := hid (hK (.bool true) w (PrV.is rfl rfl) (Below.refl _ _))
      go_simp
      refine kq hv.out ?_
      rfl
    · exact fun ac w hR hd hk K hK => yes (want_n rfl) (wp_pick _ _ _ rfl true _ ((hd 10 _ 49 rfl rfl rfl).val rfl) ((hd 12 _ 51 rfl rfl rfl).val rfl) (hK _ w (PrV.is rfl rfl) (Below.refl _ _)))
    · exact fun ac w hR hd hk K hK => yes (want_n rfl) (wp_mv _ rfl _ ((hd 13 _ 52 rfl rfl rfl).val rfl) (hK _ w (PrV.is rfl rfl) (Below.refl _ _)))
    · exact fun ac w hR hd hk K hK => yes (want_g rfl rfl ((hd 14 _ 53 rfl rfl rfl).val rfl)) (wp_mv _ rfl _ (get_keep (hk 7 (no_dst (by kernel_rfl))) rfl) (hK _ w (PrV.is rfl rfl) (Below.refl _ _)))
    · intro ac w hR hd hk K hK
      have e54 : ac.tmps[54]?.getD undef = (.int .i64 1 : Value) := slot ((hd 15 _ 54 rfl rfl rfl).val rfl)
      refine yes (want_g rfl rfl ((hd 14 _ 53 rfl rfl rfl).val rfl)) ?_
      have hv := hid (hK (.bool true) w (PrV.is rfl rfl) (Below.refl _ _))
      go_simp
      refine kq hv.out ?_
      rfl
    · exact fun ac w hR hd hk K hK => yes (want_n rfl) (wp_pick _ _ _ rfl true _ ((hd 14 _ 53 rfl rfl rfl).val rfl) ((hd 16 _ 55 rfl rfl rfl).val rfl) (hK _ w (PrV.is rfl rfl) (Below.refl _ _)))
    · exact fun ac w hR hd hk K hK => yes (want_n rfl) (wp_mv _ rfl _ ((hd 17 _ 56 rfl rfl rfl).val rfl) (hK _ w (PrV.is rfl rfl) (Below.refl _ _)))
    · exact fun ac w hR hd hk K hK => yes (want_g rfl rfl ((hd 18 _ 57 rfl rfl rfl).val rfl)) (wp_mv _ rfl _ (get_keep (hk 8 (no_dst (by kernel_rfl))) rfl) (hK _ w (PrV.is rfl rfl) (Below.refl _ _)))
    · intro ac w hR hd hk K hK
      have e58 : ac.tmps[58]?.getD undef = (.int .i64 0 : Value) := slot ((hd 19 _ 58 rfl rfl rfl).val rfl)
      refine yes (want_g rfl rfl ((hd 18 _ 57 rfl rfl rfl).val rfl)) ?_
      have hv := hid (hK (.bool true) w (PrV.is rfl rfl) (Below.refl _ _))
      go_simp
      refine kq hv.out ?_
      rfl
    · exact fun ac w hR hd hk K hK => yes (want_n rfl) (wp_pick _ _ _ rfl true _ ((hd 18 _ 57 rfl rfl rfl).val rfl) ((hd 20 _ 59 rfl rfl rfl).val rfl) (hK _ w (PrV.is rfl rfl) (Below.refl _ _)))
    · exact fun ac w hR hd hk K hK => yes (want_n rfl) (wp_mv _ rfl _ ((hd 21 _ 60 rfl rfl rfl).val rfl) (hK _ w (PrV.is rfl rfl) (Below.refl _ _)))
    · intro ac w hR hd hk K hK
      have e1 : ac.tmps[1]?.getD undef = (.pointer (some ⟨g2, 0, none⟩) : Value) := slot (get_keep (hk 1 (no_dst (by kernel_rfl))) rfl)
      have x0 := stay hR v0
      have x1 := stay hR v1
      have x2 := stay hR v2
      have x3 := stay hR v3
      have x4 := stay hR v4
      refine yes (want_g rfl rfl ((hd 22 _ 61 rfl rfl rfl).val rfl)) ?_
      have hv := hid (hK (.agg #[.slice none 0 0, .slice none 0 0, .slice (some ⟨g0, 0, none⟩) 2 2, .slice (some ⟨g1, 0, none⟩) 1 1, .int .u8 0]) w (PrV.is rfl rfl) (Below.refl _ _))
      go_simp
      refine kq hv.out ?_
      rfl
    · exact fun ac w hR hd hk K hK => yes (want_g rfl rfl ((hd 22 _ 61 rfl rfl rfl).val rfl)) (wp_mv _ rfl _ (get_keep (hk 3 (no_dst (by kernel_rfl))) rfl) (hK _ w (PrV.is rfl rfl) (Below.refl _ _)))
    · exact fun ac w hR hd hk K hK => yes (want_g rfl rfl ((hd 22 _ 61 rfl rfl rfl).val rfl)) (wp_mv _ rfl _ (get_keep (hk 2 (no_dst (by kernel_rfl))) rfl) (hK _ w (PrV.is rfl rfl) (Below.refl _ _)))
    · intro ac w hR hd hk K hK
      refine yes (want_g rfl rfl ((hd 22 _ 61 rfl rfl rfl).val rfl)) ?_
      refine wp_callc 22 (.tmp 64) _ _ rfl (((hd 25 _ 64 rfl rfl rfl).val rfl)) _ Try.func22 rfl rfl _ (args2 rfl rfl) (spec22 sPhys 2 w) ?_
      rintro e w' ⟨rfl, hb⟩
      exact ⟨_, rfl, hK _ w' (PrV.is rfl rfl) hb⟩
    · exact fun ac w hR hd hk K hK => yes (want_g rfl rfl ((hd 22 _ 61 rfl rfl rfl).val rfl)) (wp_callv 17 _ _ rfl _ Try.func17 rfl rfl _ (args3 ((hd 23 _ 62 rfl rfl rfl).val rfl) ((hd 24 _ 63 rfl rfl rfl).val rfl) ((hd 26 _ 65 rfl rfl rfl).val rfl)) (kM1 w hR) (by rintro e w' ⟨rfl, hb⟩; exact ⟨_, rfl, hK _ w' (PrV.is rfl rfl) (hb)⟩))
    · intro ac w hR hd hk K hK
      have e66 : ac.tmps[66]?.getD undef = (.int .i64 0 : Value) := slot ((hd 27 _ 66 rfl rfl rfl).val rfl)
      refine yes (want_g rfl rfl ((hd 22 _ 61 rfl rfl rfl).val rfl)) ?_
      have hv := hid (hK (.bool true) w (PrV.is rfl rfl) (Below.refl _ _))
      go_simp
      refine kq hv.out ?_
      rfl
    · exact fun ac w hR hd hk K hK => yes (want_n rfl) (wp_pick _ _ _ rfl true _ ((hd 22 _ 61 rfl rfl rfl).val rfl) ((hd 28 _ 67 rfl rfl rfl).val rfl) (hK _ w (PrV.is rfl rfl) (Below.refl _ _)))
    · exact fun ac w hR hd hk K hK => yes (want_n rfl) (wp_mv _ rfl _ ((hd 29 _ 68 rfl rfl rfl).val rfl) (hK _ w (PrV.is rfl rfl) (Below.refl _ _)))
    · intro ac w hR hd hk K hK
      have e1 : ac.tmps[1]?.getD undef = (.pointer (some ⟨g2, 0, none⟩) : Value) := slot (get_keep (hk 1 (no_dst (by kernel_rfl))) rfl)
      have x0 := stay hR v0
      have x1 := stay hR v1
      have x2 := stay hR v2
      have x3 := stay hR v3
      have x4 := stay hR v4
      refine yes (want_g rfl rfl ((hd 30 _ 69 rfl rfl rfl).val rfl)) ?_
      have hv := hid (hK (.agg #[.slice none 0 0, .slice none 0 0, .slice (some ⟨g0, 0, none⟩) 2 2, .slice (some ⟨g1, 0, none⟩) 1 1, .int .u8 0]) w (PrV.is rfl rfl) (Below.refl _ _))
      go_simp
      refine kq hv.out ?_
      rfl
    · exact fun ac w hR hd hk K hK => yes (want_g rfl rfl ((hd 30 _ 69 rfl rfl rfl).val rfl)) (wp_mv _ rfl _ (get_keep (hk 3 (no_dst (by kernel_rfl))) rfl) (hK _ w (PrV.is rfl rfl) (Below.refl _ _)))
    · exact fun ac w hR hd hk K hK => yes (want_g rfl rfl ((hd 30 _ 69 rfl rfl rfl).val rfl)) (wp_mv _ rfl _ (get_keep (hk 2 (no_dst (by kernel_rfl))) rfl) (hK _ w (PrV.is rfl rfl) (Below.refl _ _)))
    · intro ac w hR hd hk K hK
      refine yes (want_g rfl rfl ((hd 30 _ 69 rfl rfl rfl).val rfl)) ?_
      refine wp_callc 22 (.tmp 72) _ _ rfl (((hd 33 _ 72 rfl rfl rfl).val rfl)) _ Try.func22 rfl rfl _ (args2 rfl rfl) (spec22 sPhys 3 w) ?_
      rintro e w' ⟨rfl, hb⟩
      exact ⟨_, rfl, hK _ w' (PrV.is rfl rfl) hb⟩
    · exact fun ac w hR hd hk K hK => yes (want_g rfl rfl ((hd 30 _ 69 rfl rfl rfl).val rfl)) (wp_callv 17 _ _ rfl _ Try.func17 rfl rfl _ (args3 ((hd 31 _ 70 rfl rfl rfl).val rfl) ((hd 32 _ 71 rfl rfl rfl).val rfl) ((hd 34 _ 73 rfl rfl rfl).val rfl)) (kM2 w hR) (by rintro e w' ⟨rfl, hb⟩; exact ⟨_, rfl, hK _ w' (PrV.is rfl rfl) (hb)⟩))
    · intro ac w hR hd hk K hK
      have e74 : ac.tmps[74]?.getD undef = (.int .i64 150 : Value) := slot ((hd 35 _ 74 rfl rfl rfl).val rfl)
      refine yes (want_g rfl rfl ((hd 30 _ 69 rfl rfl rfl).val rfl)) ?_
      have hv := hid (hK (.bool true) w (PrV.is rfl rfl) (Below.refl _ _))
      go_simp
      refine kq hv.out ?_
      rfl
    · exact fun ac w hR hd hk K hK => yes (want_n rfl) (wp_pick _ _ _ rfl true _ ((hd 30 _ 69 rfl rfl rfl).val rfl) ((hd 36 _ 75 rfl rfl rfl).val rfl) (hK _ w (PrV.is rfl rfl) (Below.refl _ _)))
    · exact fun ac w hR hd hk K hK => yes (want_n rfl) (wp_mv _ rfl _ ((hd 37 _ 76 rfl rfl rfl).val rfl) (hK _ w (PrV.is rfl rfl) (Below.refl _ _)))
    · intro ac w hR hd hk K hK
      have e1 : ac.tmps[1]?.getD undef = (.pointer (some ⟨g2, 0, none⟩) : Value) := slot (get_keep (hk 1 (no_dst (by kernel_rfl))) rfl)
      have x0 := stay hR v0
      have x1 := stay hR v1
      have x2 := stay hR v2
      have x3 := stay hR v3
      have x4 := stay hR v4
      refine yes (want_g rfl rfl ((hd 38 _ 77 rfl rfl rfl).val rfl)) ?_
      have hv := hid (hK (.agg #[.slice none 0 0, .slice none 0 0, .slice (some ⟨g0, 0, none⟩) 2 2, .slice (some ⟨g1, 0, none⟩) 1 1, .int .u8 0]) w (PrV.is rfl rfl) (Below.refl _ _))
      go_simp
      refine kq hv.out ?_
      rfl
    · exact fun ac w hR hd hk K hK => yes (want_g rfl rfl ((hd 38 _ 77 rfl rfl rfl).val rfl)) (wp_mv _ rfl _ (get_keep (hk 3 (no_dst (by kernel_rfl))) rfl) (hK _ w (PrV.is rfl rfl) (Below.refl _ _)))
    · exact fun ac w hR hd hk K hK => yes (want_g rfl rfl ((hd 38 _ 77 rfl rfl rfl).val rfl)) (wp_mv _ rfl _ (get_keep (hk 2 (no_dst (by kernel_rfl))) rfl) (hK _ w (PrV.is rfl rfl) (Below.refl _ _)))
    · intro ac w hR hd hk K hK
      refine yes (want_g rfl rfl ((hd 38 _ 77 rfl rfl rfl).val rfl)) ?_
      refine wp_callc 22 (.tmp 80) _ _ rfl (((hd 41 _ 80 rfl rfl rfl).val rfl)) _ Try.func22 rfl rfl _ (args2 rfl rfl) (spec22 sAll 4 w) ?_
      rintro e w' ⟨rfl, hb⟩
      exact ⟨_, rfl, hK _ w' (PrV.is rfl rfl) hb⟩
    · exact fun ac w hR hd hk K hK => yes (want_g rfl rfl ((hd 38 _ 77 rfl rfl rfl).val rfl)) (wp_callv 17 _ _ rfl _ Try.func17 rfl rfl _ (args3 ((hd 39 _ 78 rfl rfl rfl).val rfl) ((hd 40 _ 79 rfl rfl rfl).val rfl) ((hd 42 _ 81 rfl rfl rfl).val rfl)) (kM3 w hR) (by rintro e w' ⟨rfl, hb⟩; exact ⟨_, rfl, hK _ w' (PrV.is rfl rfl) (hb)⟩))
    · intro ac w hR hd hk K hK
      have e82 : ac.tmps[82]?.getD undef = (.int .i64 0 : Value) := slot ((hd 43 _ 82 rfl rfl rfl).val rfl)
      refine yes (want_g rfl rfl ((hd 38 _ 77 rfl rfl rfl).val rfl)) ?_
      have hv := hid (hK (.bool true) w (PrV.is rfl rfl) (Below.refl _ _))
      go_simp
      refine kq hv.out ?_
      rfl
    · exact fun ac w hR hd hk K hK => yes (want_n rfl) (wp_pick _ _ _ rfl true _ ((hd 38 _ 77 rfl rfl rfl).val rfl) ((hd 44 _ 83 rfl rfl rfl).val rfl) (hK _ w (PrV.is rfl rfl) (Below.refl _ _)))
    · exact fun ac w hR hd hk K hK => yes (want_n rfl) (wp_mv _ rfl _ ((hd 45 _ 84 rfl rfl rfl).val rfl) (hK _ w (PrV.is rfl rfl) (Below.refl _ _)))
    · intro ac w hR hd hk K hK
      have e1 : ac.tmps[1]?.getD undef = (.pointer (some ⟨g2, 0, none⟩) : Value) := slot (get_keep (hk 1 (no_dst (by kernel_rfl))) rfl)
      have x0 := stay hR v0
      have x1 := stay hR v1
      have x2 := stay hR v2
      have x3 := stay hR v3
      have x4 := stay hR v4
      refine yes (want_g rfl rfl ((hd 46 _ 85 rfl rfl rfl).val rfl)) ?_
      have hv := hid (hK (.agg #[.slice none 0 0, .slice none 0 0, .slice (some ⟨g0, 0, none⟩) 2 2, .slice (some ⟨g1, 0, none⟩) 1 1, .int .u8 0]) w (PrV.is rfl rfl) (Below.refl _ _))
      go_simp
      refine kq hv.out ?_
      rfl
    · exact fun ac w hR hd hk K hK => yes (want_g rfl rfl ((hd 46 _ 85 rfl rfl rfl).val rfl)) (wp_mv _ rfl _ (get_keep (hk 9 (no_dst (by kernel_rfl))) rfl) (hK _ w (PrV.is rfl rfl) (Below.refl _ _)))
    · exact fun ac w hR hd hk K hK => yes (want_g rfl rfl ((hd 46 _ 85 rfl rfl rfl).val rfl)) (wp_mv _ rfl _ (get_keep (hk 2 (no_dst (by kernel_rfl))) rfl) (hK _ w (PrV.is rfl rfl) (Below.refl _ _)))
    · intro ac w hR hd hk K hK
      refine yes (want_g rfl rfl ((hd 46 _ 85 rfl rfl rfl).val rfl)) ?_
      refine wp_callc 22 (.tmp 88) _ _ rfl (((hd 49 _ 88 rfl rfl rfl).val rfl)) _ Try.func22 rfl rfl _ (args2 rfl rfl) (spec22 sAll 1 w) ?_
      rintro e w' ⟨rfl, hb⟩
      exact ⟨_, rfl, hK _ w' (PrV.is rfl rfl) hb⟩
    · exact fun ac w hR hd hk K hK => yes (want_g rfl rfl ((hd 46 _ 85 rfl rfl rfl).val rfl)) (wp_callv 17 _ _ rfl _ Try.func17 rfl rfl _ (args3 ((hd 47 _ 86 rfl rfl rfl).val rfl) ((hd 48 _ 87 rfl rfl rfl).val rfl) ((hd 50 _ 89 rfl rfl rfl).val rfl)) (kM4 w hR) (by rintro e w' ⟨rfl, hb⟩; exact ⟨_, rfl, hK _ w' (PrV.is rfl rfl) (hb)⟩))
    · intro ac w hR hd hk K hK
      have e90 : ac.tmps[90]?.getD undef = (.int .i64 150 : Value) := slot ((hd 51 _ 90 rfl rfl rfl).val rfl)
      refine yes (want_g rfl rfl ((hd 46 _ 85 rfl rfl rfl).val rfl)) ?_
      have hv := hid (hK (.bool true) w (PrV.is rfl rfl) (Below.refl _ _))
      go_simp
      refine kq hv.out ?_
      rfl
    · exact fun ac w hR hd hk K hK => yes (want_n rfl) (wp_pick _ _ _ rfl true _ ((hd 46 _ 85 rfl rfl rfl).val rfl) ((hd 52 _ 91 rfl rfl rfl).val rfl) (hK _ w (PrV.is rfl rfl) (Below.refl _ _)))
    · exact fun ac w hR hd hk K hK => yes (want_n rfl) (wp_as _ rfl _ ((hd 53 _ 92 rfl rfl rfl).val rfl) (hK _ w (PrV.is rfl rfl) (Below.refl _ _)))
  · intro a w11 hdf hsz hkp hval hRw
    obtain ⟨f, hf⟩ : ∃ f, f = fun d => a.tmps.getD d undef := ⟨_, rfl⟩
    have h0 : f 0 = .bool true := by rw [hf]; exact (hval 54 _ 0 rfl rfl).val rfl
    have hfa := act_filled hdf hsz hkp
    rw [← hf] at hfa
    rw [hfa]
    clear hdf hsz hkp hval hfa hf
    clear a
    simp only [fillAll, List.set_cons_zero, List.set_cons_succ, h0]
    clear h0
    have B11 := bnext B10 hRw
    go_wp2
    go_ret
    exact ⟨rfl, B11⟩

end Go.Proofs.Ytpebhjncdfcmnaa
