/- Sameness of specs, jobs, partitions and configs. -/
import Derived.Test.YtomdghodbkhkaaaDoorCp2
namespace Go.Proofs.YtomdghodbkhkaaaDoor
open Go.RowKit
set_option linter.unusedVariables false

set_option maxRecDepth 100000 in
set_option maxHeartbeats 2000000 in
theorem samespec (s : Spc) (D : List Dp) (xa : Option Addr) (xc : Nat) (w : World) (hD : D.length = s.dn) (hl : s.dn ≤ 4611686018427387904) (h1 : DAt w xa D) (h2 : DAt w s.da D) :
    Calls Tryd.prog 10 #[.agg (sc (s.re xa xc)).toArray, .agg (sc s).toArray] w fun e w' => e = .returned (.bool true) ∧ Below w.heap.size w w' := by
  obtain ⟨W0, hW0⟩ : ∃ W0, W0 = ((w.alloc (.cells (sc (s.re xa xc)).toArray 33)).alloc (.cells (sc s).toArray 33)) := ⟨_, rfl⟩
  have bl0 := below_lit w (.cells (sc (s.re xa xc)).toArray 33)
  have bl1 := below_lit (w.alloc (.cells (sc (s.re xa xc)).toArray 33)) (.cells (sc s).toArray 33)
  have bl := bnext bl0 bl1
  have p0 := stay bl1 (lit_cell w 33 (sc (s.re xa xc)).toArray 0 (.string s.user) rfl)
  have q0 := lit_cell (w.alloc (.cells (sc (s.re xa xc)).toArray 33)) 33 (sc s).toArray 0 (.string s.user) rfl
  rw [size_lit] at q0
  have p1 := stay bl1 (lit_cell w 33 (sc (s.re xa xc)).toArray 1 (.string s.acct) rfl)
  have q1 := lit_cell (w.alloc (.cells (sc (s.re xa xc)).toArray 33)) 33 (sc s).toArray 1 (.string s.acct) rfl
  rw [size_lit] at q1
  have p2 := stay bl1 (lit_cell w 33 (sc (s.re xa xc)).toArray 2 (.string s.qos) rfl)
  have q2 := lit_cell (w.alloc (.cells (sc (s.re xa xc)).toArray 33)) 33 (sc s).toArray 2 (.string s.qos) rfl
  rw [size_lit] at q2
  have p3 := stay bl1 (lit_cell w 33 (sc (s.re xa xc)).toArray 3 (.string s.part) rfl)
  have q3 := lit_cell (w.alloc (.cells (sc (s.re xa xc)).toArray 33)) 33 (sc s).toArray 3 (.string s.part) rfl
  rw [size_lit] at q3
  have p4 := stay bl1 (lit_cell w 33 (sc (s.re xa xc)).toArray 4 (.int .i64 s.nodes) rfl)
  have q4 := lit_cell (w.alloc (.cells (sc (s.re xa xc)).toArray 33)) 33 (sc s).toArray 4 (.int .i64 s.nodes) rfl
  rw [size_lit] at q4
  have p5 := stay bl1 (lit_cell w 33 (sc (s.re xa xc)).toArray 5 (.int .i64 s.cores) rfl)
  have q5 := lit_cell (w.alloc (.cells (sc (s.re xa xc)).toArray 33)) 33 (sc s).toArray 5 (.int .i64 s.cores) rfl
  rw [size_lit] at q5
  have p6 := stay bl1 (lit_cell w 33 (sc (s.re xa xc)).toArray 6 (.int .i64 s.lim) rfl)
  have q6 := lit_cell (w.alloc (.cells (sc (s.re xa xc)).toArray 33)) 33 (sc s).toArray 6 (.int .i64 s.lim) rfl
  rw [size_lit] at q6
  have p7 := stay bl1 (lit_cell w 33 (sc (s.re xa xc)).toArray 7 (.slice xa s.dn xc) rfl)
  have q7 := lit_cell (w.alloc (.cells (sc (s.re xa xc)).toArray 33)) 33 (sc s).toArray 7 (.slice s.da s.dn s.dc) rfl
  rw [size_lit] at q7
  have kD := samedeps xa s.da s.dn xc s.dc D W0 hD hl (h1.below (by rw [hW0]; exact bl)) (h2.below (by rw [hW0]; exact bl))
  rw [← hW0] at bl
  replace hD := hid hD
  replace h1 := hid h1
  replace h2 := hid h2
  clear bl0 bl1
  go_enter Tryd.func10, Tryd.ntmps10
  go_wp2_with fail
  rw [← hW0]
  refine kD.mono ?_
  rintro e w1 ⟨rfl, hb1⟩
  have D1 := bnext bl hb1
  go_wp2
  go_ret
  exact ⟨rfl, D1⟩

def pv20 (b o k c b' o' c' i : Nat) (X : Job) (xa : Option Addr) (xc : Nat) : List Value := [.slice (some ⟨b, o, none⟩) k c, .int .i64 (i : Int), .pointer (some ⟨b, o + i * 17, none⟩), .agg (jc (X.re xa xc)).toArray, .slice (some ⟨b', o', none⟩) k c', .int .i64 (i : Int), .pointer (some ⟨b', o' + i * 17, none⟩), .agg (jc X).toArray, .bool true, .bool false]

theorem reJ_at : ∀ {A B : List (Job × List Dp)} (_ : ReJ A B) (i : Nat) (hi : i < A.length) (hj : i < B.length), (∃ x y, B[i].1 = A[i].1.re x y) ∧ B[i].2 = A[i].2
  | p :: r, q :: t, h, 0, _, _ => ⟨h.1, h.2.1⟩
  | p :: r, q :: t, h, i + 1, hi, hj => reJ_at h.2.2 i (by simpa using hi) (by simpa using hj)
  | [], _, _, i, hi, _ => by simp at hi
  | p :: r, [], h, i, _, hj => by simp at hj

end Go.Proofs.YtomdghodbkhkaaaDoor
