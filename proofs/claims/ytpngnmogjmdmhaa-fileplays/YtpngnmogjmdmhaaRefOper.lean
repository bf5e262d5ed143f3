/- operation of the document's disk. -/
import Derived.Test.YtpngnmogjmdmhaaRefB
import Derived.Laws.ResultCell
import Derived.BigQuiet
import Derived.WalkSmall
namespace Go.Proofs.Ytpngnmogjmdmhaa
open Go.RowKit
set_option linter.unusedVariables false

theorem results_row_tmp {fn : Func} {p u : Tmp} (h : fn.results = #[.cell p 40, .tmp u]) (tmps : Array Value) (w : World) (g : Nat) (cs : Array Value) (v : Value)
    (hp : tmps.getD p undef = .pointer (some ⟨g, 0, none⟩)) (hg : w.heap[g]? = some (.cells cs 40 (0, 0))) (hv : tmps.getD u undef = v) (hc : cs.size = 8) :
    (results fn tmps).run Try.prog w = .ok (.tuple #[.agg cs, v]) w := by
  rw [results_cell_tmp h, hp, hv]
  simp [asAddr, run_loadVar_row w g 40 40 cs (0, 0) _ hg Try.underlying40 rfl (by rw [hc]; exact info40), Result.andThen]

theorem set40 {w : World} {g : Nat} {cs : Array Value} (h : w.heap[g]? = some (.cells cs 40 (0, 0))) (j : Nat) (v : Value) : (w.setCell ⟨g, j, none⟩ v).heap[g]? = some (.cells (cs.setIfInBounds j v) 40 (0, 0)) := by
  rw [setCell_eq_setRow w g j _ 40 (0, 0) _ h, setRow_heap w g _ _ 40 _ h]

theorem set_off {w : World} {g b : Nat} {o : Obj} (h : w.heap[g]? = some o) (hne : g ≠ b) (j : Nat) (v : Value) : (w.setCell ⟨b, j, none⟩ v).heap[g]? = some o := by
  rw [Below.heap_setCell _ _ _ _ hne]; exact h

/-- All the eight cells of a disk are written. -/
theorem eight {w : World} {g : Nat} {c0 c1 c2 c3 c4 c5 c6 c7 : Value} (h : w.heap[g]? = some (.cells #[c0, c1, c2, c3, c4, c5, c6, c7] 40 (0, 0))) (v0 v1 v2 v3 v4 v5 v6 v7 : Value) : ((((((((w.setCell ⟨g, 0, none⟩ v0).setCell ⟨g, 1, none⟩ v1).setCell ⟨g, 2, none⟩ v2).setCell ⟨g, 3, none⟩ v3).setCell ⟨g, 4, none⟩ v4).setCell ⟨g, 5, none⟩ v5).setCell ⟨g, 6, none⟩ v6).setCell ⟨g, 7, none⟩ v7).heap[g]? = some (.cells #[v0, v1, v2, v3, v4, v5, v6, v7] 40 (0, 0)) := by
  have h0 := h
  have h1 : (w.setCell ⟨g, 0, none⟩ v0).heap[g]? = some (.cells #[v0, c1, c2, c3, c4, c5, c6, c7] 40 (0, 0)) := set40 h0 0 v0
  have h2 : ((w.setCell ⟨g, 0, none⟩ v0).setCell ⟨g, 1, none⟩ v1).heap[g]? = some (.cells #[v0, v1, c2, c3, c4, c5, c6, c7] 40 (0, 0)) := set40 h1 1 v1
  have h3 : (((w.setCell ⟨g, 0, none⟩ v0).setCell ⟨g, 1, none⟩ v1).setCell ⟨g, 2, none⟩ v2).heap[g]? = some (.cells #[v0, v1, v2, c3, c4, c5, c6, c7] 40 (0, 0)) := set40 h2 2 v2
  have h4 : ((((w.setCell ⟨g, 0, none⟩ v0).setCell ⟨g, 1, none⟩ v1).setCell ⟨g, 2, none⟩ v2).setCell ⟨g, 3, none⟩ v3).heap[g]? = some (.cells #[v0, v1, v2, v3, c4, c5, c6, c7] 40 (0, 0)) := set40 h3 3 v3
  have h5 : (((((w.setCell ⟨g, 0, none⟩ v0).setCell ⟨g, 1, none⟩ v1).setCell ⟨g, 2, none⟩ v2).setCell ⟨g, 3, none⟩ v3).setCell ⟨g, 4, none⟩ v4).heap[g]? = some (.cells #[v0, v1, v2, v3, v4, c5, c6, c7] 40 (0, 0)) := set40 h4 4 v4
  have h6 : ((((((w.setCell ⟨g, 0, none⟩ v0).setCell ⟨g, 1, none⟩ v1).setCell ⟨g, 2, none⟩ v2).setCell ⟨g, 3, none⟩ v3).setCell ⟨g, 4, none⟩ v4).setCell ⟨g, 5, none⟩ v5).heap[g]? = some (.cells #[v0, v1, v2, v3, v4, v5, c6, c7] 40 (0, 0)) := set40 h5 5 v5
  have h7 : (((((((w.setCell ⟨g, 0, none⟩ v0).setCell ⟨g, 1, none⟩ v1).setCell ⟨g, 2, none⟩ v2).setCell ⟨g, 3, none⟩ v3).setCell ⟨g, 4, none⟩ v4).setCell ⟨g, 5, none⟩ v5).setCell ⟨g, 6, none⟩ v6).heap[g]? = some (.cells #[v0, v1, v2, v3, v4, v5, v6, c7] 40 (0, 0)) := set40 h6 6 v6
  have h8 : ((((((((w.setCell ⟨g, 0, none⟩ v0).setCell ⟨g, 1, none⟩ v1).setCell ⟨g, 2, none⟩ v2).setCell ⟨g, 3, none⟩ v3).setCell ⟨g, 4, none⟩ v4).setCell ⟨g, 5, none⟩ v5).setCell ⟨g, 6, none⟩ v6).setCell ⟨g, 7, none⟩ v7).heap[g]? = some (.cells #[v0, v1, v2, v3, v4, v5, v6, v7] 40 (0, 0)) := set40 h7 7 v7
  exact h8
theorem eightB {w0 w : World} {B g : Nat} (h : Below B w0 w) (hg : B ≤ g) (v0 v1 v2 v3 v4 v5 v6 v7 : Value) : Below B w0 ((((((((w.setCell ⟨g, 0, none⟩ v0).setCell ⟨g, 1, none⟩ v1).setCell ⟨g, 2, none⟩ v2).setCell ⟨g, 3, none⟩ v3).setCell ⟨g, 4, none⟩ v4).setCell ⟨g, 5, none⟩ v5).setCell ⟨g, 6, none⟩ v6).setCell ⟨g, 7, none⟩ v7) :=
  (Below.setCell (Below.setCell (Below.setCell (Below.setCell (Below.setCell (Below.setCell (Below.setCell (Below.setCell h (p := ⟨g, 0, none⟩) hg v0) (p := ⟨g, 1, none⟩) hg v1) (p := ⟨g, 2, none⟩) hg v2) (p := ⟨g, 3, none⟩) hg v3) (p := ⟨g, 4, none⟩) hg v4) (p := ⟨g, 5, none⟩) hg v5) (p := ⟨g, 6, none⟩) hg v6) (p := ⟨g, 7, none⟩) hg v7)

set_option maxRecDepth 100000 in
set_option maxHeartbeats 4000000 in
theorem operation_most (x : RDx) (d : Dsk) (w : World) (ha0 : -1 ≤ d.arm) (ha1 : d.arm ≤ 9223372036854775807) (hf0 : -1 ≤ d.fail) (hf1 : d.fail ≤ 9223372036854775807) (hne : d.arm ≠ 0 → d.fail ≠ 0) :
    Calls Try.prog 59 #[.agg (x.cells d)] w fun e w' => e = .returned (.tuple #[.agg (x.cells d.went), .int .i64 d.errs]) ∧ Below w.heap.size w w' := by
  cases hdn : d.down with
  | true =>
    have e1 : d.went = d := by unfold Dsk.went; rw [hdn]; rfl
    have e2 : d.errs = 6 := by unfold Dsk.errs; rw [hdn]; rfl
    rw [e1, e2]
    unfold RDx.cells RDx.fv
    rw [hdn]
    go_enter Try.func59, Try.ntmps59
    go_wp2
    refine bodyPost_ret (results_row_tmp rfl _ _ (w.heap.size + 1) _ _ rfl (heap_alloc2_new w _ _) rfl rfl) rfl ?_
    exact ⟨rfl, bnext (below_lit w _) (below_lit _ _)⟩
  | false =>
    have e1 : d.went = { d with down := decide (d.arm = 0), arm := less d.arm, fail := less d.fail } := by unfold Dsk.went; rw [hdn]; rfl
    have e2 : d.errs = if d.arm = 0 then 6 else if d.fail = 0 then d.fault else 0 := by unfold Dsk.errs; rw [hdn]; rfl
    rw [e1, e2]
    unfold RDx.cells RDx.fv
    dsimp only
    rw [hdn]
    clear e1 e2 hdn
    generalize d.arm = A at *
    generalize d.fail = F at *
    obtain hA | hA | hA : A = 0 ∨ A = -1 ∨ 0 < A := by omega
    · obtain hF | hF | hF : F = 0 ∨ F = -1 ∨ 0 < F := by omega
      · skip
        subst hA
        rw [show decide ((0 : Int) = 0) = true from rfl, show less 0 = -1 from rfl, if_pos rfl]
        subst hF
        rw [show less 0 = -1 from rfl]
        go_enter Try.func59, Try.ntmps59
        go_wp2_with fail
        go_quiet (fail)
        go_wp2
        refine bodyPost_ret (results_row_tmp rfl _ _ (w.heap.size + 1) _ _ rfl (eight (c0 := .slice none 0 0) (c1 := .slice none 0 0) (c2 := .slice none 0 0) (c3 := .slice none 0 0) (c4 := .bool false) (c5 := .int .i64 0) (c6 := .int .i64 0) (c7 := .int .i64 0) ?_ _ _ _ _ _ _ _ _) rfl rfl) rfl ⟨rfl, eightB ?_ (by omega) _ _ _ _ _ _ _ _⟩
        · (repeat refine set_off ?_ (by omega) _ _)
          exact heap_alloc2_new w _ _
        · (repeat refine Below.setCell ?_ (by exact Nat.le_refl _) _)
          exact below_drewN (bnext (below_lit w _) (below_lit _ _)) _
      · skip
        subst hA
        rw [show decide ((0 : Int) = 0) = true from rfl, show less 0 = -1 from rfl, if_pos rfl]
        subst hF
        rw [show less (-1) = -1 from rfl]
        go_enter Try.func59, Try.ntmps59
        go_wp2_with fail
        go_quiet (fail)
        go_wp2
        refine bodyPost_ret (results_row_tmp rfl _ _ (w.heap.size + 1) _ _ rfl (eight (c0 := .slice none 0 0) (c1 := .slice none 0 0) (c2 := .slice none 0 0) (c3 := .slice none 0 0) (c4 := .bool false) (c5 := .int .i64 0) (c6 := .int .i64 0) (c7 := .int .i64 0) ?_ _ _ _ _ _ _ _ _) rfl rfl) rfl ⟨rfl, eightB ?_ (by omega) _ _ _ _ _ _ _ _⟩
        · (repeat refine set_off ?_ (by omega) _ _)
          exact heap_alloc2_new w _ _
        · (repeat refine Below.setCell ?_ (by exact Nat.le_refl _) _)
          exact below_drewN (bnext (below_lit w _) (below_lit _ _)) _
      · skip
        subst hA
        rw [show decide ((0 : Int) = 0) = true from rfl, show less 0 = -1 from rfl, if_pos rfl]
        have b0 : (F == 0) = false := beq_eq_false_iff_ne.2 (by omega)
        have b1 : decide (0 ≤ F) = true := decide_eq_true (by omega)
        have b3 : less F = F - 1 := by unfold less; rw [if_neg (by omega)]
        have b4 : ¬ F = 0 := by omega
        rw [b3]
        clear b4
        go_enter Try.func59, Try.ntmps59
        go_wp2_with fail
        go_quiet (fail)
        go_wp2
        refine bodyPost_ret (results_row_tmp rfl _ _ (w.heap.size + 1) _ _ rfl (eight (c0 := .slice none 0 0) (c1 := .slice none 0 0) (c2 := .slice none 0 0) (c3 := .slice none 0 0) (c4 := .bool false) (c5 := .int .i64 0) (c6 := .int .i64 0) (c7 := .int .i64 0) ?_ _ _ _ _ _ _ _ _) rfl rfl) rfl ⟨rfl, eightB ?_ (by omega) _ _ _ _ _ _ _ _⟩
        · (repeat refine set_off ?_ (by omega) _ _)
          exact heap_alloc2_new w _ _
        · (repeat refine Below.setCell ?_ (by exact Nat.le_refl _) _)
          exact below_drewN (bnext (below_lit w _) (below_lit _ _)) _
    · obtain hF | hF | hF : F = 0 ∨ F = -1 ∨ 0 < F := by omega
      · skip
        exact absurd hF (hne (by omega))
      · skip
        subst hA
        rw [show decide ((-1 : Int) = 0) = false from rfl, show less (-1) = -1 from rfl, if_neg (by decide)]
        subst hF
        rw [show less (-1) = -1 from rfl, if_neg (by decide)]
        go_enter Try.func59, Try.ntmps59
        go_wp2_with fail
        go_quiet (fail)
        go_wp2
        refine bodyPost_ret (results_row_tmp rfl _ _ (w.heap.size + 1) _ _ rfl (eight (c0 := .slice none 0 0) (c1 := .slice none 0 0) (c2 := .slice none 0 0) (c3 := .slice none 0 0) (c4 := .bool false) (c5 := .int .i64 0) (c6 := .int .i64 0) (c7 := .int .i64 0) ?_ _ _ _ _ _ _ _ _) rfl rfl) rfl ⟨rfl, eightB ?_ (by omega) _ _ _ _ _ _ _ _⟩
        · (repeat refine set_off ?_ (by omega) _ _)
          exact heap_alloc2_new w _ _
        · (repeat refine Below.setCell ?_ (by exact Nat.le_refl _) _)
          exact below_drewN (bnext (below_lit w _) (below_lit _ _)) _
      · skip
        subst hA
        rw [show decide ((-1 : Int) = 0) = false from rfl, show less (-1) = -1 from rfl, if_neg (by decide)]
        have b0 : (F == 0) = false := beq_eq_false_iff_ne.2 (by omega)
        have b1 : decide (0 ≤ F) = true := decide_eq_true (by omega)
        have b3 : less F = F - 1 := by unfold less; rw [if_neg (by omega)]
        have b4 : ¬ F = 0 := by omega
        rw [b3, if_neg b4]
        clear b4
        go_enter Try.func59, Try.ntmps59
        go_wp2_with fail
        go_quiet (fail)
        go_wp2
        refine bodyPost_ret (results_row_tmp rfl _ _ (w.heap.size + 1) _ _ rfl (eight (c0 := .slice none 0 0) (c1 := .slice none 0 0) (c2 := .slice none 0 0) (c3 := .slice none 0 0) (c4 := .bool false) (c5 := .int .i64 0) (c6 := .int .i64 0) (c7 := .int .i64 0) ?_ _ _ _ _ _ _ _ _) rfl rfl) rfl ⟨rfl, eightB ?_ (by omega) _ _ _ _ _ _ _ _⟩
        · (repeat refine set_off ?_ (by omega) _ _)
          exact heap_alloc2_new w _ _
        · (repeat refine Below.setCell ?_ (by exact Nat.le_refl _) _)
          exact below_drewN (bnext (below_lit w _) (below_lit _ _)) _
    · obtain hF | hF | hF : F = 0 ∨ F = -1 ∨ 0 < F := by omega
      · skip
        exact absurd hF (hne (by omega))
      · skip
        have a0 : (A == 0) = false := beq_eq_false_iff_ne.2 (by omega)
        have a1 : decide (0 ≤ A) = true := decide_eq_true (by omega)
        have a2 : decide (A = 0) = false := decide_eq_false (by omega)
        have a3 : less A = A - 1 := by unfold less; rw [if_neg (by omega)]
        have a4 : ¬ A = 0 := by omega
        rw [a2, a3, if_neg a4]
        clear a4
        subst hF
        rw [show less (-1) = -1 from rfl, if_neg (by decide)]
        go_enter Try.func59, Try.ntmps59
        go_wp2_with fail
        go_quiet (fail)
        go_wp2
        refine bodyPost_ret (results_row_tmp rfl _ _ (w.heap.size + 1) _ _ rfl (eight (c0 := .slice none 0 0) (c1 := .slice none 0 0) (c2 := .slice none 0 0) (c3 := .slice none 0 0) (c4 := .bool false) (c5 := .int .i64 0) (c6 := .int .i64 0) (c7 := .int .i64 0) ?_ _ _ _ _ _ _ _ _) rfl rfl) rfl ⟨rfl, eightB ?_ (by omega) _ _ _ _ _ _ _ _⟩
        · (repeat refine set_off ?_ (by omega) _ _)
          exact heap_alloc2_new w _ _
        · (repeat refine Below.setCell ?_ (by exact Nat.le_refl _) _)
          exact below_drewN (bnext (below_lit w _) (below_lit _ _)) _
      · skip
        have a0 : (A == 0) = false := beq_eq_false_iff_ne.2 (by omega)
        have a1 : decide (0 ≤ A) = true := decide_eq_true (by omega)
        have a2 : decide (A = 0) = false := decide_eq_false (by omega)
        have a3 : less A = A - 1 := by unfold less; rw [if_neg (by omega)]
        have a4 : ¬ A = 0 := by omega
        rw [a2, a3, if_neg a4]
        clear a4
        have b0 : (F == 0) = false := beq_eq_false_iff_ne.2 (by omega)
        have b1 : decide (0 ≤ F) = true := decide_eq_true (by omega)
        have b3 : less F = F - 1 := by unfold less; rw [if_neg (by omega)]
        have b4 : ¬ F = 0 := by omega
        rw [b3, if_neg b4]
        clear b4
        go_enter Try.func59, Try.ntmps59
        go_wp2_with fail
        go_quiet (fail)
        go_wp2
        refine bodyPost_ret (results_row_tmp rfl _ _ (w.heap.size + 1) _ _ rfl (eight (c0 := .slice none 0 0) (c1 := .slice none 0 0) (c2 := .slice none 0 0) (c3 := .slice none 0 0) (c4 := .bool false) (c5 := .int .i64 0) (c6 := .int .i64 0) (c7 := .int .i64 0) ?_ _ _ _ _ _ _ _ _) rfl rfl) rfl ⟨rfl, eightB ?_ (by omega) _ _ _ _ _ _ _ _⟩
        · (repeat refine set_off ?_ (by omega) _ _)
          exact heap_alloc2_new w _ _
        · (repeat refine Below.setCell ?_ (by exact Nat.le_refl _) _)
          exact below_drewN (bnext (below_lit w _) (below_lit _ _)) _
end Go.Proofs.Ytpngnmogjmdmhaa
