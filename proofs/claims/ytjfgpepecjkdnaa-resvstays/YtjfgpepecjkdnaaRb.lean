/- Reservations in memory: their nodes and times, whether two clash, whether a list has two that do. -/
import Derived.Test.YtjfgpepecjkdnaaRa
namespace Go.Proofs.Ytjfgpepecjkdnaa
open Go.RowKit
set_option linter.unusedVariables false

/-- A list of reservations in memory. -/
structure RL (w : World) (a : Option Addr) (k : Nat) (M : List (Prt × List ByteArray)) : Prop where
  len : M.length = k
  mat : PtAt w a (M.map (·.1))
  inn : ∀ p ∈ M, p.2.length = p.1.dn ∧ TAt w p.1.da p.2 ∧ p.1.dn ≤ 4611686018427387904
  set : ∀ p ∈ M, ∃ z : Nat, p.1.nodes = (z : Int) ∧ z < 4294967296
  le : k ≤ 4611686018427387904
theorem RL.below {w w' : World} {a : Option Addr} {k : Nat} {M : List (Prt × List ByteArray)} (h : RL w a k M) (hb : Below w.heap.size w w') : RL w' a k M :=
  ⟨h.len, h.mat.below hb, fun p hp => ⟨(h.inn p hp).1, (h.inn p hp).2.1.below hb, (h.inn p hp).2.2⟩, h.set, h.le⟩
theorem RL.nil (w : World) (a : Option Addr) : RL w a 0 [] := ⟨rfl, CAt.nil _ _, (fun p h => by cases h), (fun p h => by cases h), by omega⟩

def bv (p : Prt) : Array Value := #[.int .u32 p.nodes, .int .i64 p.prio, .int .i64 p.most]

set_option maxRecDepth 100000 in
theorem block_any (p : Prt) (w : World) : Calls Try.prog 19 #[.agg (pc5 p).toArray] w fun e w' => e = .returned (.agg (bv p)) ∧ Below w.heap.size w w' := by
  obtain ⟨x, s, f, t, da, dn, dc⟩ := p
  simp only [pc5, bv]
  have b1 := below_lit w (.cells #[.string x, .int .u32 s, .int .i64 f, .int .i64 t, .slice da dn dc] 38)
  have b2 := below_lit (w.alloc (.cells #[.string x, .int .u32 s, .int .i64 f, .int .i64 t, .slice da dn dc] 38)) (.cells #[.int .u32 s, .int .i64 f, .int .i64 t] 46)
  have hg := heap_alloc_new (w.alloc (.cells #[.string x, .int .u32 s, .int .i64 f, .int .i64 t, .slice da dn dc] 38)) (.cells #[.int .u32 s, .int .i64 f, .int .i64 t] 46)
  rw [size_lit] at hg
  go_enter Try.func19, Try.ntmps19
  go_wp2
  refine bodyPost_ret (results_cell_row rfl _ _ (w.heap.size + 1) 46 #[.int .u32 s, .int .i64 f, .int .i64 t] (0, 0) _ rfl hg Try.underlying46 rfl (by kernel_rfl)) rfl ?_
  exact ⟨rfl, bnext b1 b2⟩

theorem and_lt (a b : Nat) (h : a < 4294967296) : a &&& b < 4294967296 := Nat.lt_of_le_of_lt Nat.and_le_left h

set_option maxRecDepth 100000 in
set_option maxHeartbeats 1000000 in
theorem overlap_any (a b : Nat) (f t g u : Int) (ha : a < 4294967296) (hb : b < 4294967296) (w : World) :
    Calls Try.prog 18 #[.agg #[.int .u32 (a : Int), .int .i64 f, .int .i64 t], .agg #[.int .u32 (b : Int), .int .i64 g, .int .i64 u]] w fun e w' => e = .returned (.bool (decide (0 < Nd.cnt (a &&& b)) && decide (max f g < min t u))) ∧ Below w.heap.size w w' := by
  have hand := u32_and_nat a b ha hb
  obtain ⟨W0, hW0⟩ : ∃ W0, W0 = (w.alloc (.cells #[.int .u32 (a : Int), .int .i64 f, .int .i64 t] 46)).alloc (.cells #[.int .u32 (b : Int), .int .i64 g, .int .i64 u] 46) := ⟨_, rfl⟩
  have b1 := below_lit w (.cells #[.int .u32 (a : Int), .int .i64 f, .int .i64 t] 46)
  have b2 := below_lit (w.alloc (.cells #[.int .u32 (a : Int), .int .i64 f, .int .i64 t] 46)) (.cells #[.int .u32 (b : Int), .int .i64 g, .int .i64 u] 46)
  have B0 : Below w.heap.size w W0 := by rw [hW0]; exact bnext b1 b2
  have x1 : W0.cell? ⟨w.heap.size, 1, none⟩ = some (.int .i64 f) := by rw [hW0]; exact stay b2 (lit_cell _ _ _ _ _ rfl)
  have x2 : W0.cell? ⟨w.heap.size, 2, none⟩ = some (.int .i64 t) := by rw [hW0]; exact stay b2 (lit_cell _ _ _ _ _ rfl)
  have y1 : W0.cell? ⟨w.heap.size + 1, 1, none⟩ = some (.int .i64 g) := by
    have := lit_cell (w.alloc (.cells #[.int .u32 (a : Int), .int .i64 f, .int .i64 t] 46)) 46 #[.int .u32 (b : Int), .int .i64 g, .int .i64 u] 1 (.int .i64 g) rfl
    rw [size_lit] at this; rw [hW0]; exact this
  have y2 : W0.cell? ⟨w.heap.size + 1, 2, none⟩ = some (.int .i64 u) := by
    have := lit_cell (w.alloc (.cells #[.int .u32 (a : Int), .int .i64 f, .int .i64 t] 46)) 46 #[.int .u32 (b : Int), .int .i64 g, .int .i64 u] 2 (.int .i64 u) rfl
    rw [size_lit] at this; rw [hW0]; exact this
  have kC := Nd.count_any (a &&& b) (and_lt a b ha) W0
  clear b1 b2
  replace hW0 := hid hW0
  generalize Nd.cnt (a &&& b) = n at *
  go_enter Try.func18, Try.ntmps18
  go_wp2_with fail
  rw [← hW0.out]
  refine kC.mono ?_
  rintro e w1 ⟨rfl, hb1⟩
  have D1 := bnext B0 hb1
  replace x1 := stay hb1 x1
  replace x2 := stay hb1 x2
  replace y1 := stay hb1 y1
  replace y2 := stay hb1 y2
  have l1 := World.block_lt_of_cell? w1 _ x1
  have l2 := World.block_lt_of_cell? w1 _ y1
  by_cases h0 : 0 < n
  · have d0 : decide ((0 : Int) < (n : Int)) = true := by simp; omega
    go_wp2
    all_goals (go_ret; exact ⟨ret_bool (by rw [Bool.eq_iff_iff]; simp only [decide_eq_true_eq]; omega), D1⟩)
  · have d0 : decide ((0 : Int) < (n : Int)) = false := by simp; omega
    go_wp2
    go_ret
    exact ⟨ret_bool (by simp [h0]), D1⟩

end Go.Proofs.Ytjfgpepecjkdnaa
