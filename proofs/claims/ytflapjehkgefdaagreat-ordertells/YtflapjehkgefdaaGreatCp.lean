/- Copies of specs, jobs and partitions. -/
import Derived.Test.YtflapjehkgefdaaGreatRw
import Derived.Test.YtflapjehkgefdaaGreatUse
namespace Go.Proofs.YtflapjehkgefdaaGreat
open Go.RowKit
set_option linter.unusedVariables false

theorem setRow_other (w : World) (g : Nat) (cs : Array Value) {k : Nat} (h : k ≠ g) : (w.setRow g cs).heap[k]? = w.heap[k]? := by
  unfold World.setRow
  simp [Array.getElem?_modify, Ne.symm h]
theorem setRow_size (w : World) (g : Nat) (cs : Array Value) : (w.setRow g cs).heap.size = w.heap.size := by unfold World.setRow; simp
theorem below_setRow {base : Nat} {w w' : World} {g : Nat} (h : Below base w w') (hg : base ≤ g) (cs : Array Value) : Below base w (w'.setRow g cs) :=
  h.trans ⟨rfl, rfl, rfl, by rw [setRow_size]; exact Nat.le_refl _, fun k hk => setRow_other _ _ _ (by omega)⟩
theorem kp_setRow {S : Nat → Prop} {w w' : World} {g : Nat} (h : Kp S w w') (hg : S g) (cs : Array Value) : Kp S w (w'.setRow g cs) :=
  h.trans ⟨rfl, rfl, rfl, by rw [setRow_size]; exact Nat.le_refl _, fun k _ hn => setRow_other _ _ _ (fun e => hn (e ▸ hg))⟩
theorem setRow_setRow (w : World) (g : Nat) (a b : Array Value) : (w.setRow g a).setRow g b = w.setRow g b := by
  unfold World.setRow
  congr 1
  apply Array.ext
  · simp
  · intro k h1 h2
    simp only [Array.getElem_modify]
    split
    · rename_i hk
      subst hk
      cases w.heap[g]'(by simpa using h1) <;> rfl
    · rfl
theorem setRow_self (w : World) (g : Nat) (cur : Array Value) (t : TypeId) (fr : Nat × Nat) (h : w.heap[g]? = some (.cells cur t fr)) : w.setRow g cur = w := by
  obtain ⟨hlt, hv⟩ := Array.getElem?_eq_some_iff.1 h
  have : (w.setRow g cur).heap = w.heap := by
    unfold World.setRow
    apply Array.ext
    · simp
    · intro k h1 h2
      simp only [Array.getElem_modify]
      split
      · rename_i hk
        subst hk
        rw [hv]
      · rfl
  unfold World.setRow at this ⊢
  simp only at this
  rw [this]
def setAll : Array Value → Nat → List Value → Array Value
  | cur, _, [] => cur
  | cur, o, v :: r => setAll (cur.setIfInBounds o v) (o + 1) r
theorem setCells_row (g : Nat) (t : TypeId) (fr : Nat × Nat) : ∀ (vs : List Value) (o : Nat) (cur : Array Value) (w : World), w.heap[g]? = some (.cells cur t fr) → w.setCells g o vs = w.setRow g (setAll cur o vs)
  | [], o, cur, w, h => (setRow_self w g cur t fr h).symm
  | v :: r, o, cur, w, h => by
    have h2 := setRow_heap w g cur (cur.setIfInBounds o v) t fr h
    show (w.setCell ⟨g, o, none⟩ v).setCells g (o + 1) r = _
    rw [setCell_eq_setRow w g o cur t fr v h, setCells_row g t fr r (o + 1) _ _ h2, setRow_setRow]
    rfl

theorem row_cell {w : World} {g : Nat} {cs : Array Value} {t : TypeId} {fr : Nat × Nat} (h : w.heap[g]? = some (.cells cs t fr)) (r : Nat) (v : Value) (hv : cs[r]? = some v) : w.cell? ⟨g, r, none⟩ = some v := by
  rw [cell_of_row w g r cs t fr h]; exact hv
theorem row_free {w : World} {g : Nat} {cs : Array Value} {t : TypeId} (h : w.heap[g]? = some (.cells cs t (0, 0))) (r : Nat) : w.frozen? ⟨g, r, none⟩ = false := by
  simp [World.frozen?, h]
theorem sc_all (s : Spc) : (sc s).toArray.all (·.oneCell') = true := by simp [sc, Value.oneCell']

/-- The same, its dependencies elsewhere. -/
def Spc.re (s : Spc) (x : Option Addr) (y : Nat) : Spc := ⟨s.user, s.acct, s.qos, s.part, s.nodes, s.cores, s.lim, x, s.dn, y⟩
def Job.re (j : Job) (x : Option Addr) (y : Nat) : Job := ⟨j.id, j.arr, j.idx, j.s.re x y, j.st, j.sub, j.beg, j.fin, j.on, j.exit⟩

theorem jc_set (j : Job) (x : Option Addr) (y : Nat) : setAll (jc j).toArray 3 (sc (j.s.re x y)) = (jc (j.re x y)).toArray := by
  simp only [setAll, sc, jc, Job.re, Spc.re, List.setIfInBounds_toArray, List.set_cons_zero, List.set_cons_succ]

/-- A partition. -/
structure Prt where
  name : ByteArray
  nodes : Int
  prio : Int
  most : Int
  da : Option Addr
  dn : Nat
  dc : Nat
def prt0 : Prt := ⟨ByteArray.empty, 0, 0, 0, none, 0, 0⟩
def prtAt (L : List Prt) (i : Nat) : Prt := L.getD i prt0
theorem prtAt_eq {L : List Prt} {i : Nat} (h : i < L.length) : L[i] = prtAt L i := by simp [prtAt, h]
def Prt.re (s : Prt) (x : Option Addr) (y : Nat) : Prt := ⟨s.name, s.nodes, s.prio, s.most, x, s.dn, y⟩
def pc5 (x : Prt) : List Value := [.string x.name, .int .u32 x.nodes, .int .i64 x.prio, .int .i64 x.most, .slice x.da x.dn x.dc]
theorem pc5_len (x : Prt) : (pc5 x).length = 5 := rfl
theorem pc5_all (s : Prt) : (pc5 s).toArray.all (·.oneCell') = true := by simp [pc5, Value.oneCell']

set_option maxRecDepth 100000 in
set_option maxHeartbeats 1000000 in
theorem copyspec (s : Spc) (D : List Dp) (w : World) (hD : D.length = s.dn) (hl : s.dn * 16 ≤ 140737488355328) (hat : DAt w s.da D) :
    Calls Tryz.prog 35 #[.agg (sc s).toArray] w fun e w' => ∃ x y, e = .returned (.agg (sc (s.re x y)).toArray) ∧ s.dn ≤ y ∧ DOwn w' (w.heap.size + 1 + 1) (.slice x s.dn y) D ∧ Below w.heap.size w w' := by
  obtain ⟨W0, hW0⟩ : ∃ W0, W0 = (w.alloc (.cells (sc s).toArray 32)).alloc (.cells #[.string ⟨#[]⟩, .string ⟨#[]⟩, .string ⟨#[]⟩, .string ⟨#[]⟩, .int .i64 0, .int .i64 0, .int .i64 0, .slice none 0 0] 32) := ⟨_, rfl⟩
  have bl0 := below_lit w (.cells (sc s).toArray 32)
  have bl1 := below_lit (w.alloc (.cells (sc s).toArray 32)) (.cells #[.string ⟨#[]⟩, .string ⟨#[]⟩, .string ⟨#[]⟩, .string ⟨#[]⟩, .int .i64 0, .int .i64 0, .int .i64 0, .slice none 0 0] 32)
  have bl := bnext bl0 bl1
  have r0 : W0.heap[w.heap.size]? = some (.cells (sc s).toArray 32 (0, 0)) := by
    rw [hW0, bl1.block _ (by rw [size_lit]; omega)]; exact heap_alloc_new w _
  have r1 : W0.heap[w.heap.size + 1]? = some (.cells #[.string ⟨#[]⟩, .string ⟨#[]⟩, .string ⟨#[]⟩, .string ⟨#[]⟩, .int .i64 0, .int .i64 0, .int .i64 0, .slice none 0 0] 32 (0, 0)) := by
    have := heap_alloc_new (w.alloc (.cells (sc s).toArray 32)) (.cells #[.string ⟨#[]⟩, .string ⟨#[]⟩, .string ⟨#[]⟩, .string ⟨#[]⟩, .int .i64 0, .int .i64 0, .int .i64 0, .slice none 0 0] 32)
    rw [size_lit] at this
    rw [hW0]; exact this
  rw [← hW0] at bl
  have hsz : W0.heap.size = w.heap.size + 1 + 1 := by rw [hW0, size_lit, size_lit]
  clear bl0 bl1
  have kC := copydeps s.da s.dn s.dc D W0 hD hl (hat.below bl)
  have y7 := row_cell r0 7 (.slice s.da s.dn s.dc) rfl
  have y7u := y7
  rw [hW0] at y7u
  replace hD := hid hD
  replace hat := hid hat
  go_enter Tryz.func35, Tryz.ntmps35
  go_wp2_with fail
  rw [← hW0]
  replace hW0 := hid hW0
  refine kC.mono ?_
  rintro e w1 ⟨x, y, rfl, hy, ho, hb1⟩
  have D1 := bnext bl hb1
  have q0 : w1.heap[w.heap.size]? = some (.cells (sc s).toArray 32 (0, 0)) := by rw [hb1.block _ (by omega)]; exact r0
  have q1 : w1.heap[w.heap.size + 1]? = some (.cells #[.string ⟨#[]⟩, .string ⟨#[]⟩, .string ⟨#[]⟩, .string ⟨#[]⟩, .int .i64 0, .int .i64 0, .int .i64 0, .slice none 0 0] 32 (0, 0)) := by rw [hb1.block _ (by omega)]; exact r1
  replace y7 := row_cell q0 7 (.slice s.da s.dn s.dc) rfl
  have f7 := row_free q0 7
  have hset : w1.setCell ⟨w.heap.size, 7, none⟩ (.slice x s.dn y) = w1.setRow w.heap.size (sc (s.re x y)).toArray := by
    rw [setCell_eq_setRow _ _ _ _ _ _ _ q0]; rfl
  have u0 : (w1.setCell ⟨w.heap.size, 7, none⟩ (.slice x s.dn y)).heap[w.heap.size]? = some (.cells (sc (s.re x y)).toArray 32 (0, 0)) := by
    rw [hset]; exact setRow_heap _ _ _ _ _ _ q0
  have u1 : (w1.setCell ⟨w.heap.size, 7, none⟩ (.slice x s.dn y)).heap[w.heap.size + 1]? = some (.cells #[.string ⟨#[]⟩, .string ⟨#[]⟩, .string ⟨#[]⟩, .string ⟨#[]⟩, .int .i64 0, .int .i64 0, .int .i64 0, .slice none 0 0] 32 (0, 0)) := by
    rw [hset, setRow_other _ _ _ (by omega)]; exact q1
  have D2 : Below w.heap.size w (w1.setCell ⟨w.heap.size, 7, none⟩ (.slice x s.dn y)) := Below.setCell D1 (Nat.le_refl _) _
  have D3 : Below w.heap.size w ((w1.setCell ⟨w.heap.size, 7, none⟩ (.slice x s.dn y)).setRow (w.heap.size + 1) (sc (s.re x y)).toArray) := below_setRow D2 (by omega) _
  have K3 : Kp (fun k => k = w.heap.size ∨ k = w.heap.size + 1) w1 ((w1.setCell ⟨w.heap.size, 7, none⟩ (.slice x s.dn y)).setRow (w.heap.size + 1) (sc (s.re x y)).toArray) := by
    rw [hset]
    exact kp_setRow (kp_setRow (Kp.refl _ _) (.inl rfl) _) (.inr rfl) _
  have o3 := owns_low (base := W0.heap.size) (owns_kp ho K3 (fun k hk h => by have := (World.ownsRow.lt ho k hk).1; omega)) (show w.heap.size + 1 + 1 ≤ W0.heap.size by omega)
  have v1 := setRow_heap (w1.setCell ⟨w.heap.size, 7, none⟩ (.slice x s.dn y)) (w.heap.size + 1) _ (sc (s.re x y)).toArray _ _ u1
  replace q0 := hid q0
  replace q1 := hid q1
  replace hset := hid hset
  replace r0 := hid r0
  replace r1 := hid r1
  replace o3 := hid o3
  replace ho := hid ho
  replace u0 := hid u0
  replace u1 := hid u1
  replace v1 := hid v1
  replace K3 := hid K3
  go_wp2_with (first
    | (refine wpList_load_row rfl 32 (.tmp 1) rfl w.heap.size rfl 32 (sc (s.re x y)).toArray (0, 0) _ u0.out Tryz.underlying32 rfl (by kernel_rfl) ?_)
    | (refine wpList_store_row rfl 32 (.tmp 2) (.tmp 7) rfl (w.heap.size + 1) (sc (s.re x y)).toArray rfl rfl 32 _ u1.out (by kernel_rfl) rfl (sc_all _) ?_))
  (try simp only [Exit.inBlock, Exit.then])
  refine bodyPost_ret (results_cell_row rfl _ _ (w.heap.size + 1) 32 (sc (s.re x y)).toArray (0, 0) _ rfl v1.out Tryz.underlying32 rfl (by kernel_rfl)) rfl ?_
  exact ⟨x, y, rfl, hy, o3.out, D3⟩

set_option maxRecDepth 100000 in
set_option maxHeartbeats 1000000 in
theorem copypart (s : Prt) (D : List ByteArray) (w : World) (hD : D.length = s.dn) (hl : s.dn * 16 ≤ 140737488355328) (hat : TAt w s.da D) :
    Calls Tryz.prog 34 #[.agg (pc5 s).toArray] w fun e w' => ∃ x y, e = .returned (.agg (pc5 (s.re x y)).toArray) ∧ s.dn ≤ y ∧ TOwn w' (w.heap.size + 1 + 1) (.slice x s.dn y) D ∧ Below w.heap.size w w' := by
  obtain ⟨W0, hW0⟩ : ∃ W0, W0 = (w.alloc (.cells (pc5 s).toArray 67)).alloc (.cells #[.string ⟨#[]⟩, .int .u32 0, .int .i64 0, .int .i64 0, .slice none 0 0] 67) := ⟨_, rfl⟩
  have bl0 := below_lit w (.cells (pc5 s).toArray 67)
  have bl1 := below_lit (w.alloc (.cells (pc5 s).toArray 67)) (.cells #[.string ⟨#[]⟩, .int .u32 0, .int .i64 0, .int .i64 0, .slice none 0 0] 67)
  have bl := bnext bl0 bl1
  have r0 : W0.heap[w.heap.size]? = some (.cells (pc5 s).toArray 67 (0, 0)) := by
    rw [hW0, bl1.block _ (by rw [size_lit]; omega)]; exact heap_alloc_new w _
  have r1 : W0.heap[w.heap.size + 1]? = some (.cells #[.string ⟨#[]⟩, .int .u32 0, .int .i64 0, .int .i64 0, .slice none 0 0] 67 (0, 0)) := by
    have := heap_alloc_new (w.alloc (.cells (pc5 s).toArray 67)) (.cells #[.string ⟨#[]⟩, .int .u32 0, .int .i64 0, .int .i64 0, .slice none 0 0] 67)
    rw [size_lit] at this
    rw [hW0]; exact this
  rw [← hW0] at bl
  have hsz : W0.heap.size = w.heap.size + 1 + 1 := by rw [hW0, size_lit, size_lit]
  clear bl0 bl1
  have kC := copytexts s.da s.dn s.dc D W0 hD hl (hat.below bl)
  have y7 := row_cell r0 4 (.slice s.da s.dn s.dc) rfl
  have y7u := y7
  rw [hW0] at y7u
  replace hD := hid hD
  replace hat := hid hat
  go_enter Tryz.func34, Tryz.ntmps34
  go_wp2_with fail
  rw [← hW0]
  replace hW0 := hid hW0
  refine kC.mono ?_
  rintro e w1 ⟨x, y, rfl, hy, ho, hb1⟩
  have D1 := bnext bl hb1
  have q0 : w1.heap[w.heap.size]? = some (.cells (pc5 s).toArray 67 (0, 0)) := by rw [hb1.block _ (by omega)]; exact r0
  have q1 : w1.heap[w.heap.size + 1]? = some (.cells #[.string ⟨#[]⟩, .int .u32 0, .int .i64 0, .int .i64 0, .slice none 0 0] 67 (0, 0)) := by rw [hb1.block _ (by omega)]; exact r1
  replace y7 := row_cell q0 4 (.slice s.da s.dn s.dc) rfl
  have f7 := row_free q0 4
  have hset : w1.setCell ⟨w.heap.size, 4, none⟩ (.slice x s.dn y) = w1.setRow w.heap.size (pc5 (s.re x y)).toArray := by
    rw [setCell_eq_setRow _ _ _ _ _ _ _ q0]; rfl
  have u0 : (w1.setCell ⟨w.heap.size, 4, none⟩ (.slice x s.dn y)).heap[w.heap.size]? = some (.cells (pc5 (s.re x y)).toArray 67 (0, 0)) := by
    rw [hset]; exact setRow_heap _ _ _ _ _ _ q0
  have u1 : (w1.setCell ⟨w.heap.size, 4, none⟩ (.slice x s.dn y)).heap[w.heap.size + 1]? = some (.cells #[.string ⟨#[]⟩, .int .u32 0, .int .i64 0, .int .i64 0, .slice none 0 0] 67 (0, 0)) := by
    rw [hset, setRow_other _ _ _ (by omega)]; exact q1
  have D2 : Below w.heap.size w (w1.setCell ⟨w.heap.size, 4, none⟩ (.slice x s.dn y)) := Below.setCell D1 (Nat.le_refl _) _
  have D3 : Below w.heap.size w ((w1.setCell ⟨w.heap.size, 4, none⟩ (.slice x s.dn y)).setRow (w.heap.size + 1) (pc5 (s.re x y)).toArray) := below_setRow D2 (by omega) _
  have K3 : Kp (fun k => k = w.heap.size ∨ k = w.heap.size + 1) w1 ((w1.setCell ⟨w.heap.size, 4, none⟩ (.slice x s.dn y)).setRow (w.heap.size + 1) (pc5 (s.re x y)).toArray) := by
    rw [hset]
    exact kp_setRow (kp_setRow (Kp.refl _ _) (.inl rfl) _) (.inr rfl) _
  have o3 := owns_low (base := W0.heap.size) (owns_kp ho K3 (fun k hk h => by have := (World.ownsRow.lt ho k hk).1; omega)) (show w.heap.size + 1 + 1 ≤ W0.heap.size by omega)
  have v1 := setRow_heap (w1.setCell ⟨w.heap.size, 4, none⟩ (.slice x s.dn y)) (w.heap.size + 1) _ (pc5 (s.re x y)).toArray _ _ u1
  replace q0 := hid q0
  replace q1 := hid q1
  replace hset := hid hset
  replace r0 := hid r0
  replace r1 := hid r1
  replace o3 := hid o3
  replace ho := hid ho
  replace u0 := hid u0
  replace u1 := hid u1
  replace v1 := hid v1
  replace K3 := hid K3
  go_wp2_with (first
    | (refine wpList_load_row rfl 67 (.tmp 1) rfl w.heap.size rfl 67 (pc5 (s.re x y)).toArray (0, 0) _ u0.out Tryz.underlying67 rfl (by kernel_rfl) ?_)
    | (refine wpList_store_row rfl 67 (.tmp 2) (.tmp 7) rfl (w.heap.size + 1) (pc5 (s.re x y)).toArray rfl rfl 67 _ u1.out (by kernel_rfl) rfl (pc5_all _) ?_))
  (try simp only [Exit.inBlock, Exit.then])
  refine bodyPost_ret (results_cell_row rfl _ _ (w.heap.size + 1) 67 (pc5 (s.re x y)).toArray (0, 0) _ rfl v1.out Tryz.underlying67 rfl (by kernel_rfl)) rfl ?_
  exact ⟨x, y, rfl, hy, o3.out, D3⟩

set_option maxRecDepth 100000 in
set_option maxHeartbeats 1000000 in
theorem copyjob (j : Job) (D : List Dp) (w : World) (hD : D.length = j.s.dn) (hl : j.s.dn * 16 ≤ 140737488355328) (hat : DAt w j.s.da D) :
    Calls Tryz.prog 23 #[.agg (jc j).toArray] w fun e w' => ∃ x y, e = .returned (.agg (jc (j.re x y)).toArray) ∧ j.s.dn ≤ y ∧ DOwn w' (w.heap.size + 1 + 1) (.slice x j.s.dn y) D ∧ Below w.heap.size w w' := by
  obtain ⟨W0, hW0⟩ : ∃ W0, W0 = (w.alloc (.cells (jc j).toArray 37)).alloc (.cells #[.int .i64 0, .int .i64 0, .int .i64 0, .string ⟨#[]⟩, .string ⟨#[]⟩, .string ⟨#[]⟩, .string ⟨#[]⟩, .int .i64 0, .int .i64 0, .int .i64 0, .slice none 0 0, .int .u8 0, .int .i64 0, .int .i64 0, .int .i64 0, .int .u32 0, .int .i64 0] 37) := ⟨_, rfl⟩
  have bl0 := below_lit w (.cells (jc j).toArray 37)
  have bl1 := below_lit (w.alloc (.cells (jc j).toArray 37)) (.cells #[.int .i64 0, .int .i64 0, .int .i64 0, .string ⟨#[]⟩, .string ⟨#[]⟩, .string ⟨#[]⟩, .string ⟨#[]⟩, .int .i64 0, .int .i64 0, .int .i64 0, .slice none 0 0, .int .u8 0, .int .i64 0, .int .i64 0, .int .i64 0, .int .u32 0, .int .i64 0] 37)
  have bl := bnext bl0 bl1
  have r0 : W0.heap[w.heap.size]? = some (.cells (jc j).toArray 37 (0, 0)) := by
    rw [hW0, bl1.block _ (by rw [size_lit]; omega)]; exact heap_alloc_new w _
  have r1 : W0.heap[w.heap.size + 1]? = some (.cells #[.int .i64 0, .int .i64 0, .int .i64 0, .string ⟨#[]⟩, .string ⟨#[]⟩, .string ⟨#[]⟩, .string ⟨#[]⟩, .int .i64 0, .int .i64 0, .int .i64 0, .slice none 0 0, .int .u8 0, .int .i64 0, .int .i64 0, .int .i64 0, .int .u32 0, .int .i64 0] 37 (0, 0)) := by
    have := heap_alloc_new (w.alloc (.cells (jc j).toArray 37)) (.cells #[.int .i64 0, .int .i64 0, .int .i64 0, .string ⟨#[]⟩, .string ⟨#[]⟩, .string ⟨#[]⟩, .string ⟨#[]⟩, .int .i64 0, .int .i64 0, .int .i64 0, .slice none 0 0, .int .u8 0, .int .i64 0, .int .i64 0, .int .i64 0, .int .u32 0, .int .i64 0] 37)
    rw [size_lit] at this
    rw [hW0]; exact this
  rw [← hW0] at bl
  have hsz : W0.heap.size = w.heap.size + 1 + 1 := by rw [hW0, size_lit, size_lit]
  clear bl0 bl1
  have kC := copyspec j.s D W0 hD hl (hat.below bl)
  have y3 : W0.rangeAt w.heap.size 3 (sc j.s) := fun r v hv => row_cell r0 (3 + r) v (by
    have hr : r < 8 := by
      rcases Nat.lt_or_ge r 8 with h1 | h1
      · exact h1
      · rw [List.getElem?_eq_none (by rw [sc_len]; exact h1)] at hv; cases hv
    obtain rfl | rfl | rfl | rfl | rfl | rfl | rfl | rfl : r = 0 ∨ r = 1 ∨ r = 2 ∨ r = 3 ∨ r = 4 ∨ r = 5 ∨ r = 6 ∨ r = 7 := by omega
    all_goals exact hv)
  replace hD := hid hD
  replace hat := hid hat
  rw [hW0] at y3
  replace y3 := hid y3
  go_enter Tryz.func23, Tryz.ntmps23
  go_wp2_with (refine wpList_load_mid rfl 32 (.tmp 3) rfl w.heap.size 3 rfl (sc j.s) _ y3.out Tryz.underlying32 rfl (by kernel_rfl) ?_)
  rw [← hW0]
  replace hW0 := hid hW0
  refine kC.mono ?_
  rintro e w1 ⟨x, y, rfl, hy, ho, hb1⟩
  have D1 := bnext bl hb1
  have q0 : w1.heap[w.heap.size]? = some (.cells (jc j).toArray 37 (0, 0)) := by rw [hb1.block _ (by omega)]; exact r0
  have q1 : w1.heap[w.heap.size + 1]? = some (.cells #[.int .i64 0, .int .i64 0, .int .i64 0, .string ⟨#[]⟩, .string ⟨#[]⟩, .string ⟨#[]⟩, .string ⟨#[]⟩, .int .i64 0, .int .i64 0, .int .i64 0, .slice none 0 0, .int .u8 0, .int .i64 0, .int .i64 0, .int .i64 0, .int .u32 0, .int .i64 0] 37 (0, 0)) := by rw [hb1.block _ (by omega)]; exact r1
  have th : w1.there w.heap.size 3 (sc (j.s.re x y)).toArray.size := fun r hr => by
    have hr8 : r < 8 := hr
    refine ⟨?_, row_free q0 _⟩
    have : ∃ v, (jc j).toArray[3 + r]? = some v := by
      obtain rfl | rfl | rfl | rfl | rfl | rfl | rfl | rfl : r = 0 ∨ r = 1 ∨ r = 2 ∨ r = 3 ∨ r = 4 ∨ r = 5 ∨ r = 6 ∨ r = 7 := by omega
      all_goals exact ⟨_, rfl⟩
    obtain ⟨v, hv⟩ := this
    rw [row_cell q0 _ v hv]; rfl
  have hset0 : w1.setCells w.heap.size 3 (sc (j.s.re x y)).toArray.toList = w1.setRow w.heap.size (jc (j.re x y)).toArray := by
    rw [setCells_row _ _ _ _ _ _ _ q0, List.toList_toArray, jc_set]
  have hset : w1.setRow w.heap.size (jc (j.re x y)).toArray = w1.setRow w.heap.size (jc (j.re x y)).toArray := rfl
  have u0 : (w1.setRow w.heap.size (jc (j.re x y)).toArray).heap[w.heap.size]? = some (.cells (jc (j.re x y)).toArray 37 (0, 0)) := setRow_heap _ _ _ _ _ _ q0
  have u1 : (w1.setRow w.heap.size (jc (j.re x y)).toArray).heap[w.heap.size + 1]? = some (.cells #[.int .i64 0, .int .i64 0, .int .i64 0, .string ⟨#[]⟩, .string ⟨#[]⟩, .string ⟨#[]⟩, .string ⟨#[]⟩, .int .i64 0, .int .i64 0, .int .i64 0, .slice none 0 0, .int .u8 0, .int .i64 0, .int .i64 0, .int .i64 0, .int .u32 0, .int .i64 0] 37 (0, 0)) := by
    rw [setRow_other _ _ _ (by omega)]; exact q1
  have D2 : Below w.heap.size w (w1.setRow w.heap.size (jc (j.re x y)).toArray) := below_setRow D1 (Nat.le_refl _) _
  have D3 : Below w.heap.size w ((w1.setRow w.heap.size (jc (j.re x y)).toArray).setRow (w.heap.size + 1) (jc (j.re x y)).toArray) := below_setRow D2 (by omega) _
  have K3 : Kp (fun k => k = w.heap.size ∨ k = w.heap.size + 1) w1 ((w1.setRow w.heap.size (jc (j.re x y)).toArray).setRow (w.heap.size + 1) (jc (j.re x y)).toArray) := by
    exact kp_setRow (kp_setRow (Kp.refl _ _) (.inl rfl) _) (.inr rfl) _
  have o3 := owns_low (base := W0.heap.size + 1 + 1) (owns_kp ho K3 (fun k hk h => by have := (World.ownsRow.lt ho k hk).1; omega)) (show w.heap.size + 1 + 1 ≤ W0.heap.size + 1 + 1 by omega)
  have v1 := setRow_heap (w1.setRow w.heap.size (jc (j.re x y)).toArray) (w.heap.size + 1) _ (jc (j.re x y)).toArray _ _ u1
  replace q0 := hid q0
  replace q1 := hid q1
  replace hset := hid hset
  replace r0 := hid r0
  replace r1 := hid r1
  replace o3 := hid o3
  replace ho := hid ho
  replace u0 := hid u0
  replace u1 := hid u1
  replace v1 := hid v1
  replace K3 := hid K3
  replace th := hid th
  replace hset0 := hid hset0
  go_wp2_with (first
    | (refine wpList_store_mid rfl 32 (.tmp 6) (.tmp 5) rfl w.heap.size 3 (sc (j.s.re x y)).toArray rfl rfl th.out (by kernel_rfl) (sc_all _) ?_; rw [hset0.out])
    | (refine wpList_load_row rfl 37 (.tmp 1) rfl w.heap.size rfl 37 (jc (j.re x y)).toArray (0, 0) _ u0.out Tryz.underlying37 rfl (by kernel_rfl) ?_)
    | (refine wpList_store_row rfl 37 (.tmp 2) (.tmp 7) rfl (w.heap.size + 1) (jc (j.re x y)).toArray rfl rfl 37 _ u1.out (by kernel_rfl) rfl (jc_all _) ?_))
  (try simp only [Exit.inBlock, Exit.then])
  refine bodyPost_ret (results_cell_row rfl _ _ (w.heap.size + 1) 37 (jc (j.re x y)).toArray (0, 0) _ rfl v1.out Tryz.underlying37 rfl (by kernel_rfl)) rfl ?_
  exact ⟨x, y, rfl, hy, o3.out, D3⟩

end Go.Proofs.YtflapjehkgefdaaGreat
