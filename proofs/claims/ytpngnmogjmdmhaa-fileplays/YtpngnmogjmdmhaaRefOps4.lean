/- One more unsynced, of the document's disk. -/
import Derived.Test.YtpngnmogjmdmhaaRefOps3
namespace Go.Proofs.Ytpngnmogjmdmhaa
open Go.RowKit
set_option linter.unusedVariables false

theorem info103b : (Try.prog.info? 103).map (fun i => (i.zero, i.size, i.bytes)) = some (some (.agg #[.int .i64 0, .bool false, .int .i64 0, .slice none 0 0]), 4, 48) := by kernel_rfl
theorem rit_one (its : List RIt) : ∀ u ∈ its.flatMap RIt.cells, u.oneCell' = true := by
  intro u hu
  obtain ⟨i, _, hx⟩ := List.mem_flatMap.1 hu
  simp [RIt.cells] at hx
  rcases hx with rfl | rfl | rfl | rfl <;> rfl
theorem rit_one1 (it : RIt) : ∀ u ∈ it.cells, u.oneCell' = true := by
  intro u hu
  simp [RIt.cells] at hu
  rcases hu with rfl | rfl | rfl | rfl <;> rfl

def Dsk.withD (d : Dsk) (c : Ch) : Dsk := if d.errs ≠ 0 then d.went else d.went.note c
def rMore (x : RDx) (ra : Option Addr) (rc : Nat) (it : RIt) : RDx := ⟨x.fa, x.fc, ra, rc, x.its ++ [it]⟩

theorem RD.more {w w5 : World} {T : Nat → Prop} {x : RDx} {d : Dsk} {it : RIt} {ra : Option Addr} {rc B : Nat} (h : RD w T x d) (hit : FA w T it.a it.cap it.c.data) (hb : Below w.heap.size w w5) (hB : ∀ b, T b → b < B)
    (ho : w5.ownsRow B 103 4 (.slice ra (x.its.length + 1) rc) (x.its.length + 1) (x.its.flatMap RIt.cells ++ it.cells)) : RD w5 T (rMore x ra rc it) (d.went.note it.c) := by
  obtain ⟨a', c', e, hc⟩ := owns_form ho
  simp only [Value.slice.injEq] at e
  obtain ⟨rfl, _, rfl⟩ := e
  refine ⟨fun i hi => ?_, ?_, ?_, fun _ ad e hT => ?_, ?_, fun i hi => ?_⟩
  · show FA w5 T (x.fa i) (x.fc i) (d.went.dur i)
    rw [Dsk.went_dur]; exact (h.file i hi).below hb
  · show (x.its ++ [it]).map (·.c) = d.went.ops ++ [it.c]
    rw [Dsk.went_ops, List.map_append, h.ops]; rfl
  · show CAt w5 ra ((x.its ++ [it]).flatMap RIt.cells)
    rw [List.flatMap_append]
    have := owns_cat ho
    simpa using this
  · have h1 := hB _ hT
    have e2 : ra = some ad := e
    subst e2
    have h2 := (World.ownsRow.lt ho _ (owns_addr ho ad rfl)).1
    omega
  · show (x.its ++ [it]).length ≤ rc
    rw [List.length_append]; exact hc
  · rcases List.mem_append.1 hi with h1 | h1
    · exact (h.data i h1).below hb
    · rw [List.mem_singleton.1 h1]; exact hit.below hb

set_option maxRecDepth 100000 in
set_option maxHeartbeats 2000000 in
theorem rwith_any (T : Nat → Prop) (x : RDx) (d : Dsk) (it : RIt) (w : World) (hd : RD w T x d) (hi : d.Inv) (hit : FA w T it.a it.cap it.c.data) (hT : ∀ k, T k → k < w.heap.size) (hn : d.ops.length ≤ 1000000) :
    Calls Try.prog 58 #[.agg (x.cells d), .agg #[.int .i64 (it.c.file : Int), .bool (!it.c.app), .int .i64 (it.c.left : Int), .slice it.a it.c.data.length it.cap]] w fun e w' => ∃ x' : RDx, e = .returned (.tuple #[.agg (x'.cells (d.withD it.c)), .int .i64 d.errs]) ∧ RD w' T x' (d.withD it.c) ∧ Below w.heap.size w w' := by
  obtain ⟨i0, hi0, hz0, hz1, hz2⟩ := info_parts info103b
  have hil : x.its.length = d.ops.length := by rw [← hd.ops, List.length_map]
  obtain ⟨W0, hW0⟩ : ∃ W0, W0 = (((w.alloc (.cells (x.cells d) 40)).alloc (.cells #[.int .i64 (it.c.file : Int), .bool (!it.c.app), .int .i64 (it.c.left : Int), .slice it.a it.c.data.length it.cap] 103)).alloc (.cells #[.slice none 0 0, .slice none 0 0, .slice none 0 0, .slice none 0 0, .bool false, .int .i64 0, .int .i64 0, .int .i64 0] 40)) := ⟨_, rfl⟩
  have b1 := below_lit w (.cells (x.cells d) 40)
  have b2 := below_lit (w.alloc (.cells (x.cells d) 40)) (.cells #[.int .i64 (it.c.file : Int), .bool (!it.c.app), .int .i64 (it.c.left : Int), .slice it.a it.c.data.length it.cap] 103)
  have b3 := below_lit ((w.alloc (.cells (x.cells d) 40)).alloc (.cells #[.int .i64 (it.c.file : Int), .bool (!it.c.app), .int .i64 (it.c.left : Int), .slice it.a it.c.data.length it.cap] 103)) (.cells #[.slice none 0 0, .slice none 0 0, .slice none 0 0, .slice none 0 0, .bool false, .int .i64 0, .int .i64 0, .int .i64 0] 40)
  have z1 : (w.alloc (.cells (x.cells d) 40)).heap.size = w.heap.size + 1 := size_lit _ _
  have z2 : ((w.alloc (.cells (x.cells d) 40)).alloc (.cells #[.int .i64 (it.c.file : Int), .bool (!it.c.app), .int .i64 (it.c.left : Int), .slice it.a it.c.data.length it.cap] 103)).heap.size = w.heap.size + 1 + 1 := by rw [size_lit, z1]
  have bl : Below w.heap.size w W0 := by rw [hW0]; exact bnext (bnext b1 b2) b3
  have r0 : W0.heap[w.heap.size]? = some (.cells (x.cells d) 40 (0, 0)) := by rw [hW0]; exact row_b (row_b (heap_alloc_new w _) b2) b3
  have rI : W0.heap[w.heap.size + 1]? = some (.cells #[.int .i64 (it.c.file : Int), .bool (!it.c.app), .int .i64 (it.c.left : Int), .slice it.a it.c.data.length it.cap] 103 (0, 0)) := by rw [hW0, ← z1]; exact row_b (heap_alloc_new _ _) b3
  have r1 : W0.heap[w.heap.size + 1 + 1]? = some (.cells #[.slice none 0 0, .slice none 0 0, .slice none 0 0, .slice none 0 0, .bool false, .int .i64 0, .int .i64 0, .int .i64 0] 40 (0, 0)) := by rw [hW0, ← z2]; exact heap_alloc_new _ _
  have hz : w.heap.size + 1 + 1 < W0.heap.size := (Array.getElem?_eq_some_iff.1 r1).1
  clear b1 b2 b3 z1 z2
  have kO := operation_any x d W0 hi
  replace r0 := hid r0
  replace rI := hid rI
  replace r1 := hid r1
  replace hd := hid hd
  replace hit := hid hit
  replace hil := hid hil
  go_enter Try.func58, Try.ntmps58
  go_upto_region 1 with fail
  rw [← hW0]
  replace hW0 := hid hW0
  go_wp2_with (refine wpList_load_row rfl 40 (.tmp 2) rfl w.heap.size rfl 40 (x.cells d) (0, 0) _ r0.out Try.underlying40 rfl info40c ?_)
  refine kO.mono ?_
  clear kO
  rintro e w1 ⟨rfl, hb1⟩
  have hzw : w.heap.size + 1 + 1 < w1.heap.size := Nat.lt_of_lt_of_le hz hb1.size
  obtain ⟨W2, hW2⟩ : ∃ W2, W2 = (w1.alloc (.cells #[.slice none 0 0, .slice none 0 0, .slice none 0 0, .slice none 0 0, .bool false, .int .i64 0, .int .i64 0, .int .i64 0] 40)).setRow w1.heap.size (x.cells d.went) := ⟨_, rfl⟩
  have bz := below_lit w1 (.cells #[.slice none 0 0, .slice none 0 0, .slice none 0 0, .slice none 0 0, .bool false, .int .i64 0, .int .i64 0, .int .i64 0] 40)
  have b2 : Below w1.heap.size w1 W2 := by rw [hW2]; exact below_setRow bz (Nat.le_refl _) _
  have r4 : W2.heap[w1.heap.size]? = some (.cells (x.cells d.went) 40 (0, 0)) := by rw [hW2]; exact setRow_heap _ _ _ _ _ _ (heap_alloc_new _ _)
  have hB := bnext (bnext bl hb1) b2
  have q0 := row_b (row_b r0.out hb1) b2
  have qI := row_b (row_b rI.out hb1) b2
  have q1 := row_b (row_b r1.out hb1) b2
  have hlt4 := (Array.getElem?_eq_some_iff.1 r4).1
  replace r4 := hid r4
  replace q0 := hid q0
  replace qI := hid qI
  replace q1 := hid q1
  have hzn : Hid ((w1.alloc (.cells #[.slice none 0 0, .slice none 0 0, .slice none 0 0, .slice none 0 0, .bool false, .int .i64 0, .int .i64 0, .int .i64 0] 40)).heap[w1.heap.size]? = some (.cells #[.slice none 0 0, .slice none 0 0, .slice none 0 0, .slice none 0 0, .bool false, .int .i64 0, .int .i64 0, .int .i64 0] 40 (0, 0))) := hid (heap_alloc_new _ _)
  go_upto_if 15 with (refine wpList_store_row rfl 40 (.tmp 6) (.tmp 12) rfl w1.heap.size (x.cells d.went) rfl rfl 40 _ hzn.out info40c rfl (cells_all _ _) ?_)
  rw [← hW2]
  replace hW2 := hid hW2
  by_cases hE : d.errs = 0
  · have e1 : d.withD it.c = d.went.note it.c := by unfold Dsk.withD; rw [if_neg (by rw [hE]; decide)]
    have dE : (d.errs != 0) = false := by rw [hE]; rfl
    replace e1 := hid e1
    replace hE := hid hE
    have y3 := row_cell q0.out 3 (.slice x.oa x.its.length x.oc) rfl
    have hon : W2.ownsRow W2.heap.size 103 4 (.slice none 0 0) 0 [] := World.ownsRow_nil _ _ _ _
    replace hon := hid hon
    have hcat := hid (hd.out.cat.below hB)
    have hfl := hid (flatR_len x.its)
    have hon1 := hid (rit_one x.its)
    have hmx : 0 + x.its.length ≤ maxLen := by unfold maxLen; have := hil.out; omega
    have hbd : (0 + x.its.length) * 48 ≤ 140737488355328 := by have := hil.out; omega
    replace hmx := hid hmx
    replace hbd := hid hbd
    go_wp2_with (at_builtin; refine Hid.out ?_)
    refine wpList_cat _ rfl (.tmp 18) (.tmp 20) 38 rfl W2.heap.size 103 i0 _ 4 48 Try.underlying38 hi0 hz0 hz1 hz2 rfl (by omega) (.slice none 0 0) 0 [] rfl hon.out x.oa x.its.length x.oc (x.its.flatMap RIt.cells) rfl hfl.out hcat.out hon1.out hmx.out hbd.out (Nat.le_refl _) ?_
    intro v1 w3 ho3 hg3 hv3
    rw [Nat.zero_add, List.nil_append] at ho3
    have hb3 : Below W2.heap.size W2 w3 := Below.grown (Below.refl _ _) hg3 (Nat.le_refl _) (fun j hj => by simp [Value.ownBlock] at hj)
    obtain ⟨a1, c1, e, hc1⟩ := owns_form ho3
    subst e
    replace ho3 := hid ho3
    clear hg3 hv3 y3
    have sI := row_b qI.out hb3
    have k0 := row_cell sI 0 (.int .i64 (it.c.file : Int)) rfl
    have k1 := row_cell sI 1 (.bool (!it.c.app)) rfl
    have k2 := row_cell sI 2 (.int .i64 (it.c.left : Int)) rfl
    have k3 := row_cell sI 3 (.slice it.a it.c.data.length it.cap) rfl
    have klt := World.block_lt_of_cell? w3 _ k0
    replace sI := hid sI
    have bL := below_lit w3 (.cells #[.int .i64 (it.c.file : Int), .bool (!it.c.app), .int .i64 (it.c.left : Int), .slice it.a it.c.data.length it.cap] 103)
    have ho4 : (w3.alloc (.cells #[.int .i64 (it.c.file : Int), .bool (!it.c.app), .int .i64 (it.c.left : Int), .slice it.a it.c.data.length it.cap] 103)).ownsRow W2.heap.size 103 4 (.slice a1 x.its.length c1) x.its.length (x.its.flatMap RIt.cells) := owns_kp ho3.out (Kp.of_below (S := fun _ => False) bL) (fun _ _ h => h)
    have hc4 : CAt (w3.alloc (.cells #[.int .i64 (it.c.file : Int), .bool (!it.c.app), .int .i64 (it.c.left : Int), .slice it.a it.c.data.length it.cap] 103)) (some ⟨w3.heap.size, 0, none⟩) it.cells := cat_lit w3 103 it.cells #[.int .i64 (it.c.file : Int), .bool (!it.c.app), .int .i64 (it.c.left : Int), .slice it.a it.c.data.length it.cap] rfl
    have hon2 := hid (rit_one1 it)
    have hmx2 : x.its.length + 1 ≤ maxLen := by unfold maxLen; have := hil.out; omega
    have hbd2 : (x.its.length + 1) * 48 ≤ 140737488355328 := by have := hil.out; omega
    have hsz4 : W2.heap.size ≤ (w3.alloc (.cells #[.int .i64 (it.c.file : Int), .bool (!it.c.app), .int .i64 (it.c.left : Int), .slice it.a it.c.data.length it.cap] 103)).heap.size := Nat.le_trans hb3.size bL.size
    replace hmx2 := hid hmx2
    replace hbd2 := hid hbd2
    replace ho4 := hid ho4
    replace hc4 := hid hc4
    generalize hnn : x.its.length = nn at *
    replace hnn := hid hnn
    go_wp2_with (at_builtin; refine Hid.out ?_)
    refine wpList_cat _ rfl (.tmp 22) (.tmp 24) 38 rfl W2.heap.size 103 i0 _ 4 48 Try.underlying38 hi0 hz0 hz1 hz2 rfl (by omega) (.slice a1 nn c1) nn _ rfl ho4.out (some ⟨w3.heap.size, 0, none⟩) 1 1 it.cells rfl rfl hc4.out hon2.out hmx2.out hbd2.out hsz4 ?_
    intro v2 w5 ho5 hg5 hv5
    have hb5 : Below W2.heap.size (w3.alloc (.cells #[.int .i64 (it.c.file : Int), .bool (!it.c.app), .int .i64 (it.c.left : Int), .slice it.a it.c.data.length it.cap] 103)) w5 := (Kp.grown hg5).below (fun b h => (ho4.out.lt _ h).1) hsz4
    have hb25 : Below W2.heap.size W2 w5 := (hb3.trans (bL.mono hb3.size)).trans hb5
    obtain ⟨ra, rc, e, hrc⟩ := owns_form ho5
    subst e
    clear hg5 hv5 k0 k1 k2 k3 klt
    have s4 := row_b r4.out hb25
    have s1 := row_b q1.out hb25
    have y3 := row_cell s4 3 (.slice x.oa x.its.length x.oc) rfl
    have g3 := row_free s4 3
    have hcs : (rMore x ra rc it).cells (d.went.note it.c) = (x.cells d.went).setIfInBounds 3 (.slice ra (nn + 1) rc) := by
      unfold RDx.cells RDx.fv rMore; dsimp only; rw [List.length_append, hnn.out]; rfl
    have t4 : (w5.setCell ⟨w1.heap.size, 3, none⟩ (.slice ra (nn + 1) rc)).heap[w1.heap.size]? = some (.cells ((rMore x ra rc it).cells (d.went.note it.c)) 40 (0, 0)) := by rw [hcs]; exact set40 s4 3 _
    have t1 : (w5.setCell ⟨w1.heap.size, 3, none⟩ (.slice ra (nn + 1) rc)).heap[w.heap.size + 1 + 1]? = some (.cells #[.slice none 0 0, .slice none 0 0, .slice none 0 0, .slice none 0 0, .bool false, .int .i64 0, .int .i64 0, .int .i64 0] 40 (0, 0)) := set_off s1 (by omega) _ _
    have kp4 : Kp (fun b => b = w1.heap.size) w5 (w5.setCell ⟨w1.heap.size, 3, none⟩ (.slice ra (nn + 1) rc)) := Kp.setCell (S := fun b => b = w1.heap.size) (p := ⟨w1.heap.size, 3, none⟩) (Kp.refl _ _) rfl _
    have kp5 := kp_setRow (S := fun b => b = w.heap.size + 1 + 1) (Kp.refl _ (w5.setCell ⟨w1.heap.size, 3, none⟩ (.slice ra (nn + 1) rc))) rfl ((rMore x ra rc it).cells (d.went.note it.c))
    have hB5 : Below w.heap.size w w5 := bnext hB hb25
    have hB4 : Below w.heap.size w (w5.setCell ⟨w1.heap.size, 3, none⟩ (.slice ra (nn + 1) rc)) := hB5.trans (kp4.below (fun b h => by rw [h]; have := bl.size; have := hb1.size; omega) (hB5.size))
    have hRD : RD ((w5.setCell ⟨w1.heap.size, 3, none⟩ (.slice ra (nn + 1) rc)).setRow (w.heap.size + 1 + 1) ((rMore x ra rc it).cells (d.went.note it.c))) T (rMore x ra rc it) (d.went.note it.c) := by
      have tt : ∀ b, (T b ∨ b = w.heap.size + 1 + 1 ∨ b = w1.heap.size) → T b ∨ w.heap.size ≤ b := fun b hb => by rcases hb with h | h | h <;> first | exact .inl h | (right; omega)
      rw [← hnn.out] at ho5
      have h5 := RD.more (hd.out.turn (T' := fun b => T b ∨ b = w.heap.size + 1 + 1 ∨ b = w1.heap.size) tt) (hit.out.turn (T' := fun b => T b ∨ b = w.heap.size + 1 + 1 ∨ b = w1.heap.size) tt) hB5 (B := W2.heap.size) (fun b hb => by rcases hb with h | h | h <;> first | exact Nat.lt_of_lt_of_le (hT b h) hB.size | (have := b2.size; omega)) ho5
      exact ((h5.kp (kp4.more (fun k e => .inr (.inr e)))).kp (kp5.more (fun k e => .inr (.inl e)))).turn (fun k h => .inl (.inl h))
    replace ho5 := hid ho5
    replace s4 := hid s4
    replace s1 := hid s1
    replace t4 := hid t4
    replace t1 := hid t1
    replace hcs := hid hcs
    replace hRD := hid hRD
    replace kp4 := hid kp4
    replace kp5 := hid kp5
    generalize hXX : (rMore x ra rc it).cells (d.went.note it.c) = XX at *
    replace hXX := hid hXX
    have hsz : Hid (XX.size = 8) := hid (by rw [← hXX.out]; rfl)
    have hal : Hid (XX.all (·.oneCell') = true) := hid (by rw [← hXX.out]; exact cells_all _ _)
    have hszi := hid (info40s _ hsz.out)
    go_wp2_with (first
      | (refine wpList_load_row rfl 40 (.tmp 6) rfl w1.heap.size rfl 40 XX (0, 0) _ t4.out Try.underlying40 rfl hszi.out ?_)
      | (refine wpList_store_row rfl 40 (.tmp 4) (.tmp 27) rfl (w.heap.size + 1 + 1) XX rfl rfl 40 _ t1.out hszi.out (by rw [hsz.out]; rfl) hal.out ?_))
    (try simp only [Exit.inBlock, Exit.then])
    refine bodyPost_ret (results_row_tmp rfl _ _ (w.heap.size + 1 + 1) _ _ rfl (setRow_heap _ _ _ _ _ _ t1.out) rfl hsz.out) rfl ?_
    exact ⟨rMore x ra rc it, by rw [e1.out, hE.out, hXX.out]; rfl, by rw [e1.out]; exact hRD.out, below_setRow hB4 (by omega) _⟩
  · have e1 : d.withD it.c = d.went := by unfold Dsk.withD; rw [if_pos hE]
    have dE : (d.errs != 0) = true := by simpa using hE
    replace e1 := hid e1
    have hRD : RD (W2.setRow (w.heap.size + 1 + 1) (x.cells d.went)) T x d.went := (hd.out.off (g := w.heap.size + 1 + 1) (by omega) W2 hB (kp_setRow (S := fun b => b = w.heap.size + 1 + 1) (Kp.refl _ W2) rfl _)).like (Dsk.went_dur d) (Dsk.went_ops d)
    replace hRD := hid hRD
    replace hE := hid hE
    go_wp2_with (first
      | (refine wpList_load_row rfl 40 (.tmp 6) rfl w1.heap.size rfl 40 (x.cells d.went) (0, 0) _ r4.out Try.underlying40 rfl info40c ?_)
      | (refine wpList_store_row rfl 40 (.tmp 4) (.tmp 16) rfl (w.heap.size + 1 + 1) (x.cells d.went) rfl rfl 40 _ q1.out info40c rfl (cells_all _ _) ?_))
    (try simp only [Exit.inBlock, Exit.then])
    refine bodyPost_ret (results_row_tmp rfl _ _ (w.heap.size + 1 + 1) _ _ rfl (setRow_heap _ _ _ _ _ _ q1.out) rfl rfl) rfl ?_
    exact ⟨x, by rw [e1.out]; rfl, by rw [e1.out]; exact hRD.out, below_setRow hB (by omega) _⟩

end Go.Proofs.Ytpngnmogjmdmhaa
