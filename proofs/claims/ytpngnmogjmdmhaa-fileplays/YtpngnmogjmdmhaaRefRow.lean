/- Rows of the document's disk; its operation, whole. -/
import Derived.Test.YtpngnmogjmdmhaaRefOper
import Derived.Test.YtpngnmogjmdmhaaDrawAlv
import Derived.Test.YtpngnmogjmdmhaaPlaysVals
import Derived.Laws.Tables
import Derived.Laws.Rows
import Derived.Deep.CutBlock
import Derived.Deep.Cut
namespace Go.Proofs.Ytpngnmogjmdmhaa
open Go.RowKit
set_option linter.unusedVariables false

theorem size_lit (w : World) (o : Obj) : (w.alloc o).heap.size = w.heap.size + 1 := Array.size_push _
theorem setRow_other (w : World) (g : Nat) (cs : Array Value) {k : Nat} (h : k ≠ g) : (w.setRow g cs).heap[k]? = w.heap[k]? := by
  unfold World.setRow
  simp [Array.getElem?_modify, Ne.symm h]
theorem setRow_size (w : World) (g : Nat) (cs : Array Value) : (w.setRow g cs).heap.size = w.heap.size := by unfold World.setRow; simp
theorem below_setRow {base : Nat} {w w' : World} {g : Nat} (h : Below base w w') (hg : base ≤ g) (cs : Array Value) : Below base w (w'.setRow g cs) :=
  h.trans ⟨rfl, rfl, rfl, by rw [setRow_size]; exact Nat.le_refl _, fun k hk => setRow_other _ _ _ (by omega)⟩
theorem kp_setRow {S : Nat → Prop} {w w' : World} {g : Nat} (h : Kp S w w') (hg : S g) (cs : Array Value) : Kp S w (w'.setRow g cs) :=
  h.trans ⟨rfl, rfl, rfl, by rw [setRow_size]; exact Nat.le_refl _, fun k _ hn => setRow_other _ _ _ (fun e => hn (e ▸ hg))⟩
theorem row_cell {w : World} {g : Nat} {cs : Array Value} {t : TypeId} {fr : Nat × Nat} (h : w.heap[g]? = some (.cells cs t fr)) (r : Nat) (v : Value) (hv : cs[r]? = some v) : w.cell? ⟨g, r, none⟩ = some v := by
  rw [cell_of_row w g r cs t fr h]; exact hv
theorem row_free {w : World} {g : Nat} {cs : Array Value} {t : TypeId} (h : w.heap[g]? = some (.cells cs t (0, 0))) (r : Nat) : w.frozen? ⟨g, r, none⟩ = false := by
  simp [World.frozen?, h]
theorem row_b {w w' : World} {g : Nat} {o : Obj} (h : w.heap[g]? = some o) (hb : Below w.heap.size w w') : w'.heap[g]? = some o := by
  rw [hb.block g (Array.getElem?_eq_some_iff.1 h).1]; exact h
def zero8 : Array Value := #[.slice none 0 0, .slice none 0 0, .slice none 0 0, .slice none 0 0, .bool false, .int .i64 0, .int .i64 0, .int .i64 0]
theorem info40s (cs : Array Value) (h : cs.size = 8) : (Try.prog.info? 40).map (·.size) = some cs.size := by rw [h]; exact info40
theorem cells_all (x : RDx) (d : Dsk) : (x.cells d).all (·.oneCell') = true := by simp [RDx.cells, RDx.fv, Value.oneCell']

def Wd12 (w : World) (g2 : Nat) (cs : Array Value) (L : Nat → Bool) (V : Nat → Value) (w1 : World) : Prop := ∃ W, Below w.heap.size w W ∧ w1 = if L 3 = true then W.setRow g2 cs else W
theorem Wd12.row {w : World} {g2 : Nat} {cs : Array Value} {L : Nat → Bool} {V : Nat → Value} {w1 : World} {g1 : Nat} {o : Obj} (h : Wd12 w g2 cs L V w1) (hr : w.heap[g1]? = some o) (hne : g1 ≠ g2) : w1.heap[g1]? = some o := by
  obtain ⟨W, hb, rfl⟩ := h
  split
  · rw [setRow_other _ _ _ hne]; exact row_b hr hb
  · exact row_b hr hb
theorem Wd12.same {w : World} {g2 : Nat} {cs : Array Value} {L L' : Nat → Bool} {V V' : Nat → Value} {w1 : World} (h : Wd12 w g2 cs L V w1) (h3 : L' 3 = L 3) : Wd12 w g2 cs L' V' w1 := by
  unfold Wd12; rw [h3]; exact h
def pv12o (g1 : Nat) (cs : Array Value) (e : Int) : Nat → Value → Prop
  | i, v => v = [(.agg cs : Value), .pointer (some ⟨g1, 7, none⟩), .int .i64 e, undef, .int .i64 e].getD i undef

set_option maxRecDepth 100000 in
set_option maxHeartbeats 4000000 in
theorem oper_r12 {F : Act → World → Prop} {w : World} {g1 g2 : Nat} {cs old : Array Value} {e : Int} {c0 c3 c4 c5 c6 c7 c8 c9 c10 c11 c12 c13 c14 c15 c16 c17 c18 c19 c20 c21 c22 c23 c24 c25 c26 c27 c28 c29 c30 c31 c32 c33 c34 c35 c36 : Value}
    (hne : g1 ≠ g2) (h1 : Hid (w.heap[g1]? = some (.cells cs 40 (0, 0)))) (h2 : Hid (w.heap[g2]? = some (.cells old 40 (0, 0)))) (hc : Hid (cs.size = 8)) (ho : Hid (old.size = 8)) (ha : Hid (cs.all (·.oneCell') = true)) (he : Hid (cs[7]? = some (.int .i64 e)))
    (hQ : Hid (∀ (d33 d34 d35 : Value) (W : World), Below w.heap.size w W → F ⟨#[c0, .pointer (some ⟨g1, 0, none⟩), .pointer (some ⟨g2, 0, none⟩), .int .i64 e, c4, c5, c6, c7, c8, c9, c10, c11, c12, c13, c14, c15, c16, c17, c18, c19, c20, c21, c22, c23, c24, c25, c26, c27, c28, c29, c30, c31, c32, d33, d34, d35, c36], []⟩ (W.setRow g2 cs))) :
    Code.wp Try.prog ((Try.f59.body.bind (regAt 12)).getD .skip) (Nrm F) ⟨#[c0, .pointer (some ⟨g1, 0, none⟩), .pointer (some ⟨g2, 0, none⟩), c3, c4, c5, c6, c7, c8, c9, c10, c11, c12, c13, c14, c15, c16, c17, c18, c19, c20, c21, c22, c23, c24, c25, c26, c27, c28, c29, c30, c31, c32, c33, c34, c35, c36], []⟩ w := by
  conv => arg 2; whnf
  refine wp_region_alv (Wd := Wd12 w g2 cs) (Pv := pv12o g1 cs e) (by kernel_rfl) (by kernel_rfl) ?_ ?_ ?_
  · intro L V hL
    exact ⟨_, drew_below w, by rw [hL 3]; rfl⟩
  · refine ⟨?_, ?_, ?_, ?_, ?_, trivial⟩
    · intro ac w1 L hL hup hcl hW hd hk K hK
      refine yes (want_n rfl) ?_
      refine wp_load_row 40 (.tmp 1) rfl g1 (get_keep (hk 1 (no_dst (by kernel_rfl))) rfl) 40 cs (0, 0) _ (hW.row h1.out hne) Try.underlying40 rfl (info40s _ hc.out) ?_
      exact hK _ _ (fun _ => rfl) (fun L' V' h1 h2 h3 h4 => hW.same (h2 3 (by decide)))
    · intro ac w1 L hL hup hcl hW hd hk K hK
      have e1 : ac.tmps[1]?.getD undef = (.pointer (some ⟨g1, 0, none⟩) : Value) := slot (get_keep (hk 1 (no_dst (by kernel_rfl))) rfl)
      refine yes (want_n rfl) ?_
      have hv := hid (hK (.pointer (some ⟨g1, 7, none⟩)) w1 (fun _ => rfl) (fun L' V' h1 h2 h3 h4 => hW.same (h2 3 (by decide))))
      clear hK hW hL hup hd hk hcl
      go_simp
      exact kq hv.out rfl
    · intro ac w1 L hL hup hcl hW hd hk K hK
      have e34 : ac.tmps[34]?.getD undef = (.pointer (some ⟨g1, 7, none⟩) : Value) := slot (hd 1 _ 34 rfl rfl rfl)
      have x0 := row_cell (hW.row h1.out hne) 7 _ he.out
      refine yes (want_n rfl) ?_
      have hv := hid (hK (.int .i64 e) w1 (fun _ => rfl) (fun L' V' h1 h2 h3 h4 => hW.same (h2 3 (by decide))))
      clear hK hW hL hup hd hk hcl
      go_simp
      exact kq hv.out rfl
    · intro ac w1 L hL hup hcl hW hd hk K hK
      obtain ⟨W, hb, hw⟩ := hW
      rw [hL] at hw
      simp only [Bool.false_eq_true, if_false] at hw
      subst hw
      refine yes (want_n rfl) ?_
      refine wp_store_row 40 (.tmp 2) (.tmp 33) rfl g2 cs (get_keep (hk 2 (no_dst (by kernel_rfl))) rfl) (hd 0 _ 33 rfl rfl rfl) 40 old (row_b h2.out hb) (info40s _ hc.out) (by rw [ho.out, hc.out]) ha.out ?_
      exact hK _ _ (fun h => absurd rfl h) (fun L' V' h1 h2 h3 h4 => ⟨w1, hb, by rw [h1]; rfl⟩)
    · intro ac w1 L hL hup hcl hW hd hk K hK
      refine yes (want_n rfl) (wp_as _ rfl _ (hd 2 _ 35 rfl rfl rfl) ?_)
      exact hK _ _ (fun _ => rfl) (fun L' V' h1 h2 h3 h4 => hW.same (h2 3 (by decide)))
  · intro ac w1 hdf hsz hkp hval hW
    obtain ⟨L, hall, W, hb, rfl⟩ := hW
    rw [if_pos (hall 3 (by decide))]
    obtain ⟨ff, hf⟩ : ∃ ff, ff = fun d => ac.tmps.getD d undef := ⟨_, rfl⟩
    have h3 : ff 3 = .int .i64 e := by rw [hf]; exact hval 4 _ 3 rfl rfl
    have hfa := act_filled hdf hsz hkp
    rw [← hf] at hfa
    rw [hfa]
    clear hdf hsz hkp hval hfa hf
    clear ac
    simp only [fillAll, List.set_cons_zero, List.set_cons_succ, h3]
    exact hQ.out _ _ _ W hb

theorem stayb {w w' : World} {ad : Addr} {v : Value} (hb : Below w.heap.size w w') (h : w.cell? ad = some v) : w'.cell? ad = some v := by
  rw [hb.cell (p := ad) (World.block_lt_of_cell? w _ h)]; exact h
theorem operation_most' (x : RDx) (d : Dsk) (w : World) (hdn : d.down = true) :
    Calls Try.prog 59 #[.agg (x.cells d)] w fun e w' => e = .returned (.tuple #[.agg (x.cells d.went), .int .i64 d.errs]) ∧ Below w.heap.size w w' := by
  have e1 : d.went = d := by unfold Dsk.went; rw [hdn]; rfl
  have e2 : d.errs = 6 := by unfold Dsk.errs; rw [hdn]; rfl
  rw [e1, e2]
  unfold RDx.cells RDx.fv
  rw [hdn]
  go_enter Try.func59, Try.ntmps59
  go_wp2
  refine bodyPost_ret (results_row_tmp rfl _ _ (w.heap.size + 1) _ _ rfl (heap_alloc2_new w _ _) rfl rfl) rfl ?_
  exact ⟨rfl, bnext (below_lit w _) (below_lit _ _)⟩
theorem opn_row (x : RDx) (d : Dsk) (w : World) (g : Nat) (h : w.heap[g]? = some (.cells (x.cells d) 40 (0, 0))) : w.cell? ⟨g, 4, none⟩ = some (.bool d.down) ∧ w.cell? ⟨g, 5, none⟩ = some (.int .i64 d.arm) ∧ w.cell? ⟨g, 6, none⟩ = some (.int .i64 d.fail) ∧ w.cell? ⟨g, 7, none⟩ = some (.int .i64 d.fault) :=
  ⟨row_cell h 4 _ rfl, row_cell h 5 _ rfl, row_cell h 6 _ rfl, row_cell h 7 _ rfl⟩

set_option maxRecDepth 100000 in
set_option maxHeartbeats 4000000 in
theorem operation_fail (x : RDx) (d : Dsk) (w : World) (hdn : d.down = false) (ha0 : -1 ≤ d.arm) (ha1 : d.arm ≤ 9223372036854775807) (hne : d.arm ≠ 0) (hf : d.fail = 0) :
    Calls Try.prog 59 #[.agg (x.cells d)] w fun e w' => e = .returned (.tuple #[.agg (x.cells d.went), .int .i64 d.errs]) ∧ Below w.heap.size w w' := by
  have e1 : d.went = { d with down := decide (d.arm = 0), arm := less d.arm, fail := less d.fail } := by unfold Dsk.went; rw [hdn]; rfl
  have e2 : d.errs = d.fault := by unfold Dsk.errs; rw [hdn, if_neg (by decide), if_neg hne, if_pos hf]
  rw [e2]
  have hA0 : (d.arm == 0) = false := beq_eq_false_iff_ne.2 hne
  obtain ⟨W0, hW0⟩ : ∃ W0, W0 = (w.alloc (.cells (x.cells d) 40)).alloc (.cells #[.slice none 0 0, .slice none 0 0, .slice none 0 0, .slice none 0 0, .bool false, .int .i64 0, .int .i64 0, .int .i64 0] 40) := ⟨_, rfl⟩
  have b1 := below_lit w (.cells (x.cells d) 40)
  have b2 := below_lit (w.alloc (.cells (x.cells d) 40)) (.cells #[.slice none 0 0, .slice none 0 0, .slice none 0 0, .slice none 0 0, .bool false, .int .i64 0, .int .i64 0, .int .i64 0] 40)
  have bl : Below w.heap.size w W0 := by rw [hW0]; exact bnext b1 b2
  have r0 : W0.heap[w.heap.size]? = some (.cells (x.cells d) 40 (0, 0)) := by rw [hW0]; exact row_b (heap_alloc_new w _) b2
  have r1 : W0.heap[w.heap.size + 1]? = some (.cells #[.slice none 0 0, .slice none 0 0, .slice none 0 0, .slice none 0 0, .bool false, .int .i64 0, .int .i64 0, .int .i64 0] 40 (0, 0)) := by rw [hW0, ← size_lit w (.cells (x.cells d) 40)]; exact heap_alloc_new _ _
  obtain ⟨v4, v5, v6, v7⟩ := opn_row x d W0 _ r0
  have u4 := v4
  rw [hW0, hdn] at u4
  rw [hf] at v6
  have hw5 : Hid (x.cells d.went = ((x.cells d).setIfInBounds 5 (.int .i64 (less d.arm))).setIfInBounds 6 (.int .i64 (-1))) := hid (by
    rw [e1, hf, decide_eq_false hne]; unfold RDx.cells RDx.fv; dsimp only; rw [hdn]; rfl)
  have hw6 : Hid (less d.arm = d.arm → x.cells d.went = (x.cells d).setIfInBounds 6 (.int .i64 (-1))) := hid (fun h => by
    rw [e1, hf, decide_eq_false hne]; unfold RDx.cells RDx.fv; dsimp only; rw [hdn, h]; rfl)
  have hwa := hid (cells_all x d.went)
  have hw7 : Hid ((x.cells d.went)[7]? = some (.int .i64 d.fault)) := hid (by rw [e1]; rfl)
  have hws : Hid ((x.cells d.went).size = 8) := hid rfl
  replace e1 := hid e1
  replace e2 := hid e2
  replace hdn := hid hdn
  replace hf := hid hf
  replace r0 := hid r0
  replace r1 := hid r1
  clear b1 b2
  generalize hcw : x.cells d.went = CW at *
  replace hcw := hid hcw
  go_enter Try.func59, Try.ntmps59
  go_wp2_with fail
  rw [← hW0]
  replace hW0 := hid hW0
  clear u4
  go_quiet (fail)
  have hbq := below_drewN (Below.refl W0.heap.size W0)
  generalize hWq : W0.drewN _ = W1 at *
  have hb1 : Below W0.heap.size W0 W1 := by rw [← hWq]; exact hbq _
  clear hbq
  replace hWq := hid hWq
  have q0 := row_b r0.out hb1
  have q1 := row_b r1.out hb1
  have B1 := bnext bl hb1
  have f5 := row_free q0 5
  have f6 := row_free q0 6
  replace v4 := hid v4
  replace v7 := hid v7
  have y5 := stayb hb1 v5
  have y6 := stayb hb1 v6
  clear v5 v6
  have fin : ∀ W, Below w.heap.size w W → ∀ W9, Below W.heap.size W W9 → W.heap[w.heap.size + 1]? = some (.cells #[.slice none 0 0, .slice none 0 0, .slice none 0 0, .slice none 0 0, .bool false, .int .i64 0, .int .i64 0, .int .i64 0] 40 (0, 0)) → (W9.setRow (w.heap.size + 1) CW).heap[w.heap.size + 1]? = some (.cells CW 40 (0, 0)) ∧ Below w.heap.size w (W9.setRow (w.heap.size + 1) CW) := fun W hb W9 hb9 hr => ⟨setRow_heap _ _ _ _ _ _ (row_b hr hb9), below_setRow (bnext hb hb9) (by omega) _⟩
  replace fin := hid fin
  obtain hA | hA : d.arm = -1 ∨ 0 < d.arm := by omega
  · have a1 : decide (0 ≤ d.arm) = false := decide_eq_false (by omega)
    have hset : W1.setCell ⟨w.heap.size, 6, none⟩ (.int .i64 (-1)) = W1.setRow w.heap.size CW := by
      rw [setCell_eq_setRow _ _ _ _ _ _ _ q0, hw6.out (by rw [hA]; rfl)]
    have K1 := kp_setRow (S := fun b => b = w.heap.size) (Kp.refl _ W1) rfl CW
    have s0 : (W1.setRow w.heap.size CW).heap[w.heap.size]? = some (.cells CW 40 (0, 0)) := setRow_heap _ _ _ _ _ _ q0
    have s1 : (W1.setRow w.heap.size CW).heap[w.heap.size + 1]? = some (.cells #[.slice none 0 0, .slice none 0 0, .slice none 0 0, .slice none 0 0, .bool false, .int .i64 0, .int .i64 0, .int .i64 0] 40 (0, 0)) := by rw [setRow_other _ _ _ (by omega)]; exact q1
    have B2 := below_setRow B1 (Nat.le_refl _) CW
    replace q0 := hid q0
    replace q1 := hid q1
    replace s0 := hid s0
    replace s1 := hid s1
    replace hset := hid hset
    replace K1 := hid K1
    replace hA := hid hA
    go_upto_region 12 with fail
    rw [hset.out]
    refine Code.wp_mono nrm_of ?_
    refine oper_r12 (g1 := w.heap.size) (g2 := w.heap.size + 1) (by omega) s0 s1 hws (hid rfl) hwa hw7 (hid ?_)
    intro d33 d34 d35 W9 hb9
    have hfn := fin.out _ B2 W9 hb9 s1.out
    go_wp2
    refine bodyPost_ret (results_row_tmp rfl _ _ (w.heap.size + 1) _ _ rfl hfn.1 rfl hws.out) rfl ?_
    exact ⟨rfl, hfn.2⟩
  · have a1 : decide (0 ≤ d.arm) = true := decide_eq_true (by omega)
    have hl : less d.arm = d.arm - 1 := by unfold less; rw [if_neg (by omega)]
    rw [hl] at hw5
    have q5 : (W1.setCell ⟨w.heap.size, 5, none⟩ (.int .i64 (d.arm - 1))).heap[w.heap.size]? = some (.cells ((x.cells d).setIfInBounds 5 (.int .i64 (d.arm - 1))) 40 (0, 0)) := set40 q0 5 _
    have hset : (W1.setCell ⟨w.heap.size, 5, none⟩ (.int .i64 (d.arm - 1))).setCell ⟨w.heap.size, 6, none⟩ (.int .i64 (-1)) = (W1.setCell ⟨w.heap.size, 5, none⟩ (.int .i64 (d.arm - 1))).setRow w.heap.size CW := by
      rw [setCell_eq_setRow _ _ _ _ _ _ _ q5, hw5.out]
    have s0 : ((W1.setCell ⟨w.heap.size, 5, none⟩ (.int .i64 (d.arm - 1))).setRow w.heap.size CW).heap[w.heap.size]? = some (.cells CW 40 (0, 0)) := setRow_heap _ _ _ _ _ _ q5
    have s1 : ((W1.setCell ⟨w.heap.size, 5, none⟩ (.int .i64 (d.arm - 1))).setRow w.heap.size CW).heap[w.heap.size + 1]? = some (.cells #[.slice none 0 0, .slice none 0 0, .slice none 0 0, .slice none 0 0, .bool false, .int .i64 0, .int .i64 0, .int .i64 0] 40 (0, 0)) := by
      rw [setRow_other _ _ _ (by omega)]; exact set_off q1 (by omega) _ _
    have B2 := below_setRow (Below.setCell B1 (p := ⟨w.heap.size, 5, none⟩) (Nat.le_refl _) (.int .i64 (d.arm - 1))) (Nat.le_refl _) CW
    replace q0 := hid q0
    replace q1 := hid q1
    replace q5 := hid q5
    replace s0 := hid s0
    replace s1 := hid s1
    replace hset := hid hset
    replace hl := hid hl
    go_upto_region 12 with fail
    rw [hset.out]
    refine Code.wp_mono nrm_of ?_
    refine oper_r12 (g1 := w.heap.size) (g2 := w.heap.size + 1) (by omega) s0 s1 hws (hid rfl) hwa hw7 (hid ?_)
    intro d33 d34 d35 W9 hb9
    have hfn := fin.out _ B2 W9 hb9 s1.out
    go_wp2
    refine bodyPost_ret (results_row_tmp rfl _ _ (w.heap.size + 1) _ _ rfl hfn.1 rfl hws.out) rfl ?_
    exact ⟨rfl, hfn.2⟩

theorem operation_any (x : RDx) (d : Dsk) (w : World) (hi : d.Inv) :
    Calls Try.prog 59 #[.agg (x.cells d)] w fun e w' => e = .returned (.tuple #[.agg (x.cells d.went), .int .i64 d.errs]) ∧ Below w.heap.size w w' := by
  by_cases h : d.arm ≠ 0 ∧ d.fail = 0 ∧ d.down = false
  · exact operation_fail x d w h.2.2 hi.arm0 hi.arm1 h.1 h.2.1
  · cases hd : d.down with
    | true => exact operation_most' x d w hd
    | false => exact operation_most x d w hi.arm0 hi.arm1 hi.fail0 hi.fail1 (fun h1 h2 => h ⟨h1, h2, hd⟩)

end Go.Proofs.Ytpngnmogjmdmhaa
