/- Copies, new jobs; steps of a drawn region. -/
import Derived.Test.YtomdghodbkhkaaaGreatDoorJs
import Derived.Test.YtomdghodbkhkaaaGreatDoorSm
import Derived.Test.YtomdghodbkhkaaaGreatDoorUse
import Derived.Great.BuildSlice
namespace Go.Proofs.YtomdghodbkhkaaaGreatDoor
open Go.RowKit
set_option linter.unusedVariables false
set_option linter.unusedSimpArgs false

theorem results_cell_tmp {fn : Func} {p q : Tmp} {ty : TypeId} (h : fn.results = #[.cell p ty, .tmp q]) (tmps : Array Value) (w : World) (g : Nat) (t : TypeId) (cs : Array Value) (fr : Nat × Nat) (fs : Array Field)
    (hp : tmps.getD p undef = .pointer (some ⟨g, 0, none⟩)) (hg : w.heap[g]? = some (.cells cs t fr))
    (hu : Tryz.prog.underlying ty = some (.struct fs)) (hi : (Tryz.prog.info? ty).map (·.size) = some cs.size) :
    (results fn tmps).run Tryz.prog w = .ok (.tuple #[.agg cs, tmps.getD q undef]) w := by
  have hp' : tmps[p]?.getD undef = .pointer (some ⟨g, 0, none⟩) := by simpa using hp
  simp [results, h, hp', asAddr, run_loadVar_row w g t ty cs fr _ hg hu rfl hi]

theorem info2 : (Tryz.prog.info? 2).map (fun i => (i.zero, i.size, i.bytes)) = some (some (.int .i64 0), 1, 8) := by kernel_rfl
theorem step_ord3 {Q : Exit → Act → World → Prop} {a : Act} {w : World} {K : Act → World → Prop} {o : Oper} (x y : Operand) (A B : Int) (ho : o.op = .buildSlice 130 3 #[(0, x), (1, y), (2, .const (.int .i64 1099511627776))])
    (hx : a.eval x = .int .i64 A) (hy : a.eval y = .int .i64 B)
    (hK : ∀ gb w', Below w.heap.size w w' → CAt w' (some ⟨gb, 0, none⟩) [.int .i64 A, .int .i64 B, .int .i64 1099511627776] → K (a.put o.dst (.slice (some ⟨gb, 0, none⟩) 3 3)) w') : Oper.wp Tryz.prog o a w K Q := by
  obtain ⟨i0, hi, hz0, hz1, hz2⟩ := info_parts info2
  refine wp_buildSlice 130 2 3 _ ho #[.int .i64 A, .int .i64 B, .int .i64 1099511627776] i0 _ Tryz.underlying130 hi hz0 (by rw [hz1]; omega) (by rw [hz1]; omega) ?_ (hK _ _ (below_lit _ _) (cat_lit _ _ _ _ rfl))
  have e1 : ((#[(0, x), (1, y), (2, Operand.const (.int .i64 1099511627776))] : Array (Nat × Operand)).map fun (i, x) => (i, a.eval x)).toList = (([Value.int .i64 A, .int .i64 B, .int .i64 1099511627776].zipIdx 0).map fun x => (x.2, x.1)) := by
    simp [hx, hy]; rfl
  rw [e1, hz1]
  have := Great.fill_whole (s := 1) (by omega) [Value.int .i64 A, .int .i64 B, .int .i64 1099511627776] ((Array.range (3 * 1)).map ((Value.int .i64 0).cells[· % (Value.int .i64 0).cells.size]!)) (fun v hv => by
    simp at hv
    rcases hv with rfl | rfl | rfl <;> rfl) (by simp)
  rw [this]
  simp [Value.cells]

theorem dc2_one (D : List Dp) : ∀ u ∈ D.flatMap dc2, u.oneCell' = true := by
  intro u hu
  obtain ⟨x, _, hx⟩ := List.mem_flatMap.1 hu
  simp [dc2] at hx
  rcases hx with rfl | rfl <;> rfl

abbrev zJ : Array Value := #[.int .i64 0, .int .i64 0, .int .i64 0, .string ⟨#[]⟩, .string ⟨#[]⟩, .string ⟨#[]⟩, .string ⟨#[]⟩, .int .i64 0, .int .i64 0, .int .i64 0, .slice none 0 0, .int .u8 0, .int .i64 0, .int .i64 0, .int .i64 0, .int .u32 0, .int .i64 0]

set_option maxRecDepth 100000 in
set_option maxHeartbeats 1000000 in
theorem apart_any (j : Job) (D : List Dp) (w : World) (hD : D.length = j.s.dn) (hl : j.s.dn * 16 ≤ 140737488355328) (hat : DAt w j.s.da D) :
    Calls Tryz.prog 48 #[.agg (jc j).toArray] w fun e w' => ∃ x y, e = .returned (.agg (jc (j.re x y)).toArray) ∧ j.s.dn ≤ y ∧ DOwn w' (w.heap.size + 1 + 1) (.slice x j.s.dn y) D ∧ Below w.heap.size w w' := by
  obtain ⟨i0, hi, hz0, hz1, hz2⟩ := info_parts info114
  obtain ⟨W0, hW0⟩ : ∃ W0, W0 = (w.alloc (.cells (jc j).toArray 46)).alloc (.cells #[.int .i64 0, .int .i64 0, .int .i64 0, .string ⟨#[]⟩, .string ⟨#[]⟩, .string ⟨#[]⟩, .string ⟨#[]⟩, .int .i64 0, .int .i64 0, .int .i64 0, .slice none 0 0, .int .u8 0, .int .i64 0, .int .i64 0, .int .i64 0, .int .u32 0, .int .i64 0] 46) := ⟨_, rfl⟩
  have bl0 := below_lit w (.cells (jc j).toArray 46)
  have bl1 := below_lit (w.alloc (.cells (jc j).toArray 46)) (.cells zJ 46)
  have bl := bnext bl0 bl1
  have r0 : W0.heap[w.heap.size]? = some (.cells (jc j).toArray 46 (0, 0)) := by
    rw [hW0, bl1.block _ (by rw [size_lit]; omega)]; exact heap_alloc_new w _
  have r1 : W0.heap[w.heap.size + 1]? = some (.cells zJ 46 (0, 0)) := by
    have := heap_alloc_new (w.alloc (.cells (jc j).toArray 46)) (.cells zJ 46)
    rw [size_lit] at this
    rw [hW0]; exact this
  rw [← hW0] at bl
  have hsz : W0.heap.size = w.heap.size + 1 + 1 := by rw [hW0, size_lit, size_lit]
  clear bl0 bl1
  have hat0 := hat.below bl
  have y7 := row_cell r0 10 (.slice j.s.da j.s.dn j.s.dc) rfl
  have y7u := y7
  rw [hW0] at y7u
  have hlen : (D.flatMap dc2).length = j.s.dn * 2 := by rw [flat_len dc2 2 dc2_len, hD]
  replace hlen := hid hlen
  replace hD := hid hD
  replace hat := hid hat
  replace hat0 := hid hat0
  replace r0 := hid r0
  replace r1 := hid r1
  replace hsz := hid hsz
  go_enter Tryz.func48, Tryz.ntmps48
  go_wp2_with (at_builtin; refine Hid.out ?_)
  rw [← hW0]
  replace hW0 := hid hW0
  refine wpList_cat _ rfl (.const (.slice none 0 0)) (.tmp 5) 32 rfl W0.heap.size 49 i0 _ 2 16 Tryz.underlying32 hi hz0 hz1 hz2 rfl (by omega) (.slice none 0 0) 0 [] rfl (World.ownsRow_nil _ _ _ _) j.s.da j.s.dn j.s.dc (D.flatMap dc2) rfl hlen.out hat0.out (dc2_one D) (by unfold maxLen; omega) (by rw [Nat.zero_add]; exact hl) (Nat.le_refl _) ?_
  intro v' w1 ho hg hv
  obtain ⟨x, y, rfl, hy⟩ := owns_form ho
  rw [Nat.zero_add] at ho hy ⊢
  rw [List.nil_append] at ho
  have hb1 : Below W0.heap.size W0 w1 := (Below.refl _ _).grown hg (Nat.le_refl _) (fun k hk => by cases hk)
  have D1 := bnext bl hb1
  have hoD : DOwn w1 W0.heap.size (.slice x j.s.dn y) D := by
    unfold DOwn
    have := hD.out
    rw [this]; exact ho
  clear ho hg hv
  have q0 : w1.heap[w.heap.size]? = some (.cells (jc j).toArray 46 (0, 0)) := by rw [hb1.block _ (by have := hsz.out; omega)]; exact r0.out
  have q1 : w1.heap[w.heap.size + 1]? = some (.cells zJ 46 (0, 0)) := by rw [hb1.block _ (by have := hsz.out; omega)]; exact r1.out
  replace y7 := row_cell q0 10 (.slice j.s.da j.s.dn j.s.dc) rfl
  have f7 := row_free q0 10
  have hset : w1.setCell ⟨w.heap.size, 10, none⟩ (.slice x j.s.dn y) = w1.setRow w.heap.size (jc (j.re x y)).toArray := by
    rw [setCell_eq_setRow _ _ _ _ _ _ _ q0]; rfl
  have u0 : (w1.setCell ⟨w.heap.size, 10, none⟩ (.slice x j.s.dn y)).heap[w.heap.size]? = some (.cells (jc (j.re x y)).toArray 46 (0, 0)) := by
    rw [hset]; exact setRow_heap _ _ _ _ _ _ q0
  have u1 : (w1.setCell ⟨w.heap.size, 10, none⟩ (.slice x j.s.dn y)).heap[w.heap.size + 1]? = some (.cells zJ 46 (0, 0)) := by
    rw [hset, setRow_other _ _ _ (by omega)]; exact q1
  have D2 : Below w.heap.size w (w1.setCell ⟨w.heap.size, 10, none⟩ (.slice x j.s.dn y)) := Below.setCell D1 (Nat.le_refl _) _
  have D3 : Below w.heap.size w ((w1.setCell ⟨w.heap.size, 10, none⟩ (.slice x j.s.dn y)).setRow (w.heap.size + 1) (jc (j.re x y)).toArray) := below_setRow D2 (by omega) _
  have K3 : Kp (fun k => k = w.heap.size ∨ k = w.heap.size + 1) w1 ((w1.setCell ⟨w.heap.size, 10, none⟩ (.slice x j.s.dn y)).setRow (w.heap.size + 1) (jc (j.re x y)).toArray) := by
    rw [hset]
    exact kp_setRow (kp_setRow (Kp.refl _ _) (.inl rfl) _) (.inr rfl) _
  have o3 := owns_low (base := W0.heap.size) (owns_kp hoD K3 (fun k hk h => by have := (World.ownsRow.lt hoD k hk).1; have := hsz.out; omega)) (show w.heap.size + 1 + 1 ≤ W0.heap.size by have := hsz.out; omega)
  have v1 := setRow_heap (w1.setCell ⟨w.heap.size, 10, none⟩ (.slice x j.s.dn y)) (w.heap.size + 1) _ (jc (j.re x y)).toArray _ _ u1
  replace q0 := hid q0
  replace q1 := hid q1
  replace hset := hid hset
  replace o3 := hid o3
  replace hoD := hid hoD
  replace u0 := hid u0
  replace u1 := hid u1
  replace v1 := hid v1
  replace K3 := hid K3
  go_wp2_with (first
    | (refine wpList_load_row rfl 46 (.tmp 1) rfl w.heap.size rfl 46 (jc (j.re x y)).toArray (0, 0) _ u0.out Tryz.underlying46 rfl (by kernel_rfl) ?_)
    | (refine wpList_store_row rfl 46 (.tmp 2) (.tmp 9) rfl (w.heap.size + 1) (jc (j.re x y)).toArray rfl rfl 46 _ u1.out (by kernel_rfl) rfl (jc_all _) ?_))
  (try simp only [Exit.inBlock, Exit.then])
  refine bodyPost_ret (results_cell_row rfl _ _ (w.heap.size + 1) 46 (jc (j.re x y)).toArray (0, 0) _ rfl v1.out Tryz.underlying46 rfl (by kernel_rfl)) rfl ?_
  exact ⟨x, y, rfl, hy, o3.out, D3⟩

def mkJ (id : Int) (s : Spc) (now : Int) : Job := ⟨id, 0, 0, s, 1, now, 0, 0, 0, 0⟩

set_option maxRecDepth 100000 in
set_option maxHeartbeats 1000000 in
theorem make_any (id : Int) (s : Spc) (now : Int) (D : List Dp) (w : World) (hD : D.length = s.dn) (hl : s.dn * 16 ≤ 140737488355328) (hat : DAt w s.da D) :
    Calls Tryz.prog 31 #[.int .i64 id, .agg (sc s).toArray, .int .i64 now] w fun e w' => ∃ x y, e = .returned (.agg (jc ((mkJ id s now).re x y)).toArray) ∧ s.dn ≤ y ∧ DOwn w' (w.heap.size + 1) (.slice x s.dn y) D ∧ Below w.heap.size w w' := by
  obtain ⟨W0, hW0⟩ : ∃ W0, W0 = (w.alloc (.cells (sc s).toArray 34)).alloc (.cells zJ 46) := ⟨_, rfl⟩
  have bl0 := below_lit w (.cells (sc s).toArray 34)
  have bl1 := below_lit (w.alloc (.cells (sc s).toArray 34)) (.cells zJ 46)
  have bl := bnext bl0 bl1
  have r1 : W0.heap[w.heap.size + 1]? = some (.cells zJ 46 (0, 0)) := by
    have := heap_alloc_new (w.alloc (.cells (sc s).toArray 34)) (.cells zJ 46)
    rw [size_lit] at this
    rw [hW0]; exact this
  rw [← hW0] at bl
  have hsz : W0.heap.size = w.heap.size + 1 + 1 := by rw [hW0, size_lit, size_lit]
  clear bl0 bl1
  have kA := apart_any (mkJ id s now) D W0 hD hl (hat.below bl)
  obtain ⟨s0, s1, s2, s3, nn, co, lm, da, dn, dc⟩ := s
  rw [show (jc (mkJ id ⟨s0, s1, s2, s3, nn, co, lm, da, dn, dc⟩ now)).toArray = #[.int .i64 id, .int .i64 0, .int .i64 0, .string s0, .string s1, .string s2, .string s3, .int .i64 nn, .int .i64 co, .int .i64 lm, .slice da dn dc, .int .u8 1, .int .i64 now, .int .i64 0, .int .i64 0, .int .u32 0, .int .i64 0] from rfl] at kA
  change Calls Tryz.prog 31 #[.int .i64 id, .agg #[.string s0, .string s1, .string s2, .string s3, .int .i64 nn, .int .i64 co, .int .i64 lm, .slice da dn dc], .int .i64 now] w _
  simp only [sc] at hW0
  replace hD := hid hD
  replace hat := hid hat
  replace r1 := hid r1
  replace hsz := hid hsz
  go_enter Tryz.func31, Tryz.ntmps31
  go_wp2_with fail
  rw [← hW0]
  replace hW0 := hid hW0
  refine kA.mono ?_
  rintro e w1 ⟨x, y, rfl, hy, ho, hb1⟩
  have D1 := bnext bl hb1
  have u1 : w1.heap[w.heap.size + 1]? = some (.cells zJ 46 (0, 0)) := by rw [hb1.block _ (by have := hsz.out; omega)]; exact r1.out
  have D3 : Below w.heap.size w (w1.setRow (w.heap.size + 1) (jc ((mkJ id ⟨s0, s1, s2, s3, nn, co, lm, da, dn, dc⟩ now).re x y)).toArray) := below_setRow D1 (by omega) _
  have K3 : Kp (fun k => k = w.heap.size + 1) w1 (w1.setRow (w.heap.size + 1) (jc ((mkJ id ⟨s0, s1, s2, s3, nn, co, lm, da, dn, dc⟩ now).re x y)).toArray) := kp_setRow (S := fun k => k = w.heap.size + 1) (Kp.refl _ _) rfl _
  have o3 := owns_low (base' := w.heap.size + 1) (owns_kp ho K3 (fun k hk h => by have := (World.ownsRow.lt ho k hk).1; have := hsz.out; omega)) (by have := hsz.out; omega)
  have v1 := setRow_heap w1 (w.heap.size + 1) _ (jc ((mkJ id ⟨s0, s1, s2, s3, nn, co, lm, da, dn, dc⟩ now).re x y)).toArray _ _ u1
  generalize hJ : (mkJ id ⟨s0, s1, s2, s3, nn, co, lm, da, dn, dc⟩ now).re x y = J at *
  replace hJ := hid hJ
  replace u1 := hid u1
  replace v1 := hid v1
  replace o3 := hid o3
  replace ho := hid ho
  replace K3 := hid K3
  go_wp2_with (refine wpList_store_row rfl 46 (.tmp 6) (.tmp 11) rfl (w.heap.size + 1) (jc J).toArray rfl rfl 46 _ u1.out (by kernel_rfl) rfl (jc_all _) ?_)
  (try simp only [Exit.inBlock, Exit.then])
  refine bodyPost_ret (results_cell_row rfl _ _ (w.heap.size + 1) 46 (jc J).toArray (0, 0) _ rfl v1.out Tryz.underlying46 rfl (by kernel_rfl)) rfl ?_
  exact ⟨x, y, by rw [hJ.out], hy, o3.out, D3⟩

set_option maxRecDepth 100000 in
set_option maxHeartbeats 1000000 in
theorem rmake_any (id : Int) (s : Spc) (now : Int) (D : List Dp) (w : World) (hD : D.length = s.dn) (hl : s.dn * 16 ≤ 140737488355328) (hat : DAt w s.da D) :
    Calls Tryz.prog 32 #[.int .i64 id, .agg (sc s).toArray, .int .i64 now] w fun e w' => ∃ x y, e = .returned (.agg (jc ((mkJ id s now).re x y)).toArray) ∧ s.dn ≤ y ∧ DOwn w' (w.heap.size + 1) (.slice x s.dn y) D ∧ Below w.heap.size w w' := by
  obtain ⟨W0, hW0⟩ : ∃ W0, W0 = (w.alloc (.cells (sc s).toArray 34)).alloc (.cells zJ 46) := ⟨_, rfl⟩
  have bl0 := below_lit w (.cells (sc s).toArray 34)
  have bl1 := below_lit (w.alloc (.cells (sc s).toArray 34)) (.cells zJ 46)
  have bl := bnext bl0 bl1
  have r1 : W0.heap[w.heap.size + 1]? = some (.cells zJ 46 (0, 0)) := by
    have := heap_alloc_new (w.alloc (.cells (sc s).toArray 34)) (.cells zJ 46)
    rw [size_lit] at this
    rw [hW0]; exact this
  rw [← hW0] at bl
  have hsz : W0.heap.size = w.heap.size + 1 + 1 := by rw [hW0, size_lit, size_lit]
  clear bl0 bl1
  have kA := copyspec s D W0 hD hl (hat.below bl)
  obtain ⟨s0, s1, s2, s3, nn, co, lm, da, dn, dc⟩ := s
  change Calls Tryz.prog 32 #[.int .i64 id, .agg #[.string s0, .string s1, .string s2, .string s3, .int .i64 nn, .int .i64 co, .int .i64 lm, .slice da dn dc], .int .i64 now] w _
  change Calls Tryz.prog 12 #[.agg #[.string s0, .string s1, .string s2, .string s3, .int .i64 nn, .int .i64 co, .int .i64 lm, .slice da dn dc]] W0 (fun e w' => ∃ x y, e = .returned (.agg #[.string s0, .string s1, .string s2, .string s3, .int .i64 nn, .int .i64 co, .int .i64 lm, .slice x dn y]) ∧ dn ≤ y ∧ DOwn w' (W0.heap.size + 1 + 1) (.slice x dn y) D ∧ Below W0.heap.size W0 w') at kA
  simp only [sc] at hW0
  replace hD := hid hD
  replace hat := hid hat
  replace r1 := hid r1
  replace hsz := hid hsz
  go_enter Tryz.func32, Tryz.ntmps32
  go_wp2_with fail
  rw [← hW0]
  replace hW0 := hid hW0
  refine kA.mono ?_
  rintro e w1 ⟨x, y, rfl, hy, ho, hb1⟩
  have D1 := bnext bl hb1
  have u1 : w1.heap[w.heap.size + 1]? = some (.cells zJ 46 (0, 0)) := by rw [hb1.block _ (by have := hsz.out; omega)]; exact r1.out
  obtain ⟨J, hJ⟩ : ∃ J, J = (mkJ id ⟨s0, s1, s2, s3, nn, co, lm, da, dn, dc⟩ now).re x y := ⟨_, rfl⟩
  have hJc : (jc J).toArray = #[.int .i64 id, .int .i64 0, .int .i64 0, .string s0, .string s1, .string s2, .string s3, .int .i64 nn, .int .i64 co, .int .i64 lm, .slice x dn y, .int .u8 1, .int .i64 now, .int .i64 0, .int .i64 0, .int .u32 0, .int .i64 0] := by rw [hJ]; rfl
  have D3 : Below w.heap.size w (w1.setRow (w.heap.size + 1) (jc J).toArray) := below_setRow D1 (by omega) _
  have K3 : Kp (fun k => k = w.heap.size + 1) w1 (w1.setRow (w.heap.size + 1) (jc J).toArray) := kp_setRow (S := fun k => k = w.heap.size + 1) (Kp.refl _ _) rfl _
  have o3 := owns_low (base' := w.heap.size + 1) (owns_kp ho K3 (fun k hk h => by have := (World.ownsRow.lt ho k hk).1; have := hsz.out; omega)) (by have := hsz.out; omega)
  have v1 := setRow_heap w1 (w.heap.size + 1) _ (jc J).toArray _ _ u1
  replace hJ := hid hJ
  replace hJc := hid hJc
  replace u1 := hid u1
  replace v1 := hid v1
  replace o3 := hid o3
  replace ho := hid ho
  replace K3 := hid K3
  go_wp2_with (refine wpList_store_row rfl 46 (.tmp 6) (.tmp 11) rfl (w.heap.size + 1) (jc J).toArray rfl (by rw [hJc.out]; rfl) 46 _ u1.out (by kernel_rfl) rfl (jc_all _) ?_)
  (try simp only [Exit.inBlock, Exit.then])
  refine bodyPost_ret (results_cell_row rfl _ _ (w.heap.size + 1) 46 (jc J).toArray (0, 0) _ rfl v1.out Tryz.underlying46 rfl (by kernel_rfl)) rfl ?_
  exact ⟨x, y, by rw [hJ.out], hy, o3.out, D3⟩

end Go.Proofs.YtomdghodbkhkaaaGreatDoor
