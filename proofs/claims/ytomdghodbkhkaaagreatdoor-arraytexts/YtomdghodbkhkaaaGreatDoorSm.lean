/- Sameness of specs, jobs, partitions and configs. -/
import Derived.Test.YtomdghodbkhkaaaGreatDoorCp2
namespace Go.Proofs.YtomdghodbkhkaaaGreatDoor
open Go.RowKit
set_option linter.unusedVariables false

set_option maxRecDepth 100000 in
set_option maxHeartbeats 2000000 in
theorem samespec (s : Spc) (D : List Dp) (xa : Option Addr) (xc : Nat) (w : World) (hD : D.length = s.dn) (hl : s.dn ≤ 4611686018427387904) (h1 : DAt w xa D) (h2 : DAt w s.da D) :
    Calls Tryz.prog 16 #[.agg (sc (s.re xa xc)).toArray, .agg (sc s).toArray] w fun e w' => e = .returned (.bool true) ∧ Below w.heap.size w w' := by
  obtain ⟨W0, hW0⟩ : ∃ W0, W0 = ((w.alloc (.cells (sc (s.re xa xc)).toArray 34)).alloc (.cells (sc s).toArray 34)) := ⟨_, rfl⟩
  have bl0 := below_lit w (.cells (sc (s.re xa xc)).toArray 34)
  have bl1 := below_lit (w.alloc (.cells (sc (s.re xa xc)).toArray 34)) (.cells (sc s).toArray 34)
  have bl := bnext bl0 bl1
  have p0 := stay bl1 (lit_cell w 34 (sc (s.re xa xc)).toArray 0 (.string s.user) rfl)
  have q0 := lit_cell (w.alloc (.cells (sc (s.re xa xc)).toArray 34)) 34 (sc s).toArray 0 (.string s.user) rfl
  rw [size_lit] at q0
  have p1 := stay bl1 (lit_cell w 34 (sc (s.re xa xc)).toArray 1 (.string s.acct) rfl)
  have q1 := lit_cell (w.alloc (.cells (sc (s.re xa xc)).toArray 34)) 34 (sc s).toArray 1 (.string s.acct) rfl
  rw [size_lit] at q1
  have p2 := stay bl1 (lit_cell w 34 (sc (s.re xa xc)).toArray 2 (.string s.qos) rfl)
  have q2 := lit_cell (w.alloc (.cells (sc (s.re xa xc)).toArray 34)) 34 (sc s).toArray 2 (.string s.qos) rfl
  rw [size_lit] at q2
  have p3 := stay bl1 (lit_cell w 34 (sc (s.re xa xc)).toArray 3 (.string s.part) rfl)
  have q3 := lit_cell (w.alloc (.cells (sc (s.re xa xc)).toArray 34)) 34 (sc s).toArray 3 (.string s.part) rfl
  rw [size_lit] at q3
  have p4 := stay bl1 (lit_cell w 34 (sc (s.re xa xc)).toArray 4 (.int .i64 s.nodes) rfl)
  have q4 := lit_cell (w.alloc (.cells (sc (s.re xa xc)).toArray 34)) 34 (sc s).toArray 4 (.int .i64 s.nodes) rfl
  rw [size_lit] at q4
  have p5 := stay bl1 (lit_cell w 34 (sc (s.re xa xc)).toArray 5 (.int .i64 s.cores) rfl)
  have q5 := lit_cell (w.alloc (.cells (sc (s.re xa xc)).toArray 34)) 34 (sc s).toArray 5 (.int .i64 s.cores) rfl
  rw [size_lit] at q5
  have p6 := stay bl1 (lit_cell w 34 (sc (s.re xa xc)).toArray 6 (.int .i64 s.lim) rfl)
  have q6 := lit_cell (w.alloc (.cells (sc (s.re xa xc)).toArray 34)) 34 (sc s).toArray 6 (.int .i64 s.lim) rfl
  rw [size_lit] at q6
  have p7 := stay bl1 (lit_cell w 34 (sc (s.re xa xc)).toArray 7 (.slice xa s.dn xc) rfl)
  have q7 := lit_cell (w.alloc (.cells (sc (s.re xa xc)).toArray 34)) 34 (sc s).toArray 7 (.slice s.da s.dn s.dc) rfl
  rw [size_lit] at q7
  have kD := samedeps xa s.da s.dn xc s.dc D W0 hD hl (h1.below (by rw [hW0]; exact bl)) (h2.below (by rw [hW0]; exact bl))
  rw [← hW0] at bl
  replace hD := hid hD
  replace h1 := hid h1
  replace h2 := hid h2
  clear bl0 bl1
  go_enter Tryz.func16, Tryz.ntmps16
  go_wp2_with fail
  rw [← hW0]
  refine kD.mono ?_
  rintro e w1 ⟨rfl, hb1⟩
  have D1 := bnext bl hb1
  go_wp2
  go_ret
  exact ⟨rfl, D1⟩

set_option maxRecDepth 100000 in
set_option maxHeartbeats 2000000 in
theorem samejob (j : Job) (D : List Dp) (xa : Option Addr) (xc : Nat) (w : World) (hD : D.length = j.s.dn) (hl : j.s.dn ≤ 4611686018427387904) (h1 : DAt w xa D) (h2 : DAt w j.s.da D) :
    Calls Tryz.prog 34 #[.agg (jc (j.re xa xc)).toArray, .agg (jc j).toArray] w fun e w' => e = .returned (.bool true) ∧ Below w.heap.size w w' := by
  obtain ⟨W0, hW0⟩ : ∃ W0, W0 = ((w.alloc (.cells (jc (j.re xa xc)).toArray 46)).alloc (.cells (jc j).toArray 46)) := ⟨_, rfl⟩
  have bl0 := below_lit w (.cells (jc (j.re xa xc)).toArray 46)
  have bl1 := below_lit (w.alloc (.cells (jc (j.re xa xc)).toArray 46)) (.cells (jc j).toArray 46)
  have bl := bnext bl0 bl1
  have p0 := stay bl1 (lit_cell w 46 (jc (j.re xa xc)).toArray 0 (.int .i64 j.id) rfl)
  have q0 := lit_cell (w.alloc (.cells (jc (j.re xa xc)).toArray 46)) 46 (jc j).toArray 0 (.int .i64 j.id) rfl
  rw [size_lit] at q0
  have p1 := stay bl1 (lit_cell w 46 (jc (j.re xa xc)).toArray 1 (.int .i64 j.arr) rfl)
  have q1 := lit_cell (w.alloc (.cells (jc (j.re xa xc)).toArray 46)) 46 (jc j).toArray 1 (.int .i64 j.arr) rfl
  rw [size_lit] at q1
  have p2 := stay bl1 (lit_cell w 46 (jc (j.re xa xc)).toArray 2 (.int .i64 j.idx) rfl)
  have q2 := lit_cell (w.alloc (.cells (jc (j.re xa xc)).toArray 46)) 46 (jc j).toArray 2 (.int .i64 j.idx) rfl
  rw [size_lit] at q2
  have p3 := stay bl1 (lit_cell w 46 (jc (j.re xa xc)).toArray 3 (.string j.s.user) rfl)
  have q3 := lit_cell (w.alloc (.cells (jc (j.re xa xc)).toArray 46)) 46 (jc j).toArray 3 (.string j.s.user) rfl
  rw [size_lit] at q3
  have p4 := stay bl1 (lit_cell w 46 (jc (j.re xa xc)).toArray 4 (.string j.s.acct) rfl)
  have q4 := lit_cell (w.alloc (.cells (jc (j.re xa xc)).toArray 46)) 46 (jc j).toArray 4 (.string j.s.acct) rfl
  rw [size_lit] at q4
  have p5 := stay bl1 (lit_cell w 46 (jc (j.re xa xc)).toArray 5 (.string j.s.qos) rfl)
  have q5 := lit_cell (w.alloc (.cells (jc (j.re xa xc)).toArray 46)) 46 (jc j).toArray 5 (.string j.s.qos) rfl
  rw [size_lit] at q5
  have p6 := stay bl1 (lit_cell w 46 (jc (j.re xa xc)).toArray 6 (.string j.s.part) rfl)
  have q6 := lit_cell (w.alloc (.cells (jc (j.re xa xc)).toArray 46)) 46 (jc j).toArray 6 (.string j.s.part) rfl
  rw [size_lit] at q6
  have p7 := stay bl1 (lit_cell w 46 (jc (j.re xa xc)).toArray 7 (.int .i64 j.s.nodes) rfl)
  have q7 := lit_cell (w.alloc (.cells (jc (j.re xa xc)).toArray 46)) 46 (jc j).toArray 7 (.int .i64 j.s.nodes) rfl
  rw [size_lit] at q7
  have p8 := stay bl1 (lit_cell w 46 (jc (j.re xa xc)).toArray 8 (.int .i64 j.s.cores) rfl)
  have q8 := lit_cell (w.alloc (.cells (jc (j.re xa xc)).toArray 46)) 46 (jc j).toArray 8 (.int .i64 j.s.cores) rfl
  rw [size_lit] at q8
  have p9 := stay bl1 (lit_cell w 46 (jc (j.re xa xc)).toArray 9 (.int .i64 j.s.lim) rfl)
  have q9 := lit_cell (w.alloc (.cells (jc (j.re xa xc)).toArray 46)) 46 (jc j).toArray 9 (.int .i64 j.s.lim) rfl
  rw [size_lit] at q9
  have p10 := stay bl1 (lit_cell w 46 (jc (j.re xa xc)).toArray 10 (.slice xa j.s.dn xc) rfl)
  have q10 := lit_cell (w.alloc (.cells (jc (j.re xa xc)).toArray 46)) 46 (jc j).toArray 10 (.slice j.s.da j.s.dn j.s.dc) rfl
  rw [size_lit] at q10
  have p11 := stay bl1 (lit_cell w 46 (jc (j.re xa xc)).toArray 11 (.int .u8 j.st) rfl)
  have q11 := lit_cell (w.alloc (.cells (jc (j.re xa xc)).toArray 46)) 46 (jc j).toArray 11 (.int .u8 j.st) rfl
  rw [size_lit] at q11
  have p12 := stay bl1 (lit_cell w 46 (jc (j.re xa xc)).toArray 12 (.int .i64 j.sub) rfl)
  have q12 := lit_cell (w.alloc (.cells (jc (j.re xa xc)).toArray 46)) 46 (jc j).toArray 12 (.int .i64 j.sub) rfl
  rw [size_lit] at q12
  have p13 := stay bl1 (lit_cell w 46 (jc (j.re xa xc)).toArray 13 (.int .i64 j.beg) rfl)
  have q13 := lit_cell (w.alloc (.cells (jc (j.re xa xc)).toArray 46)) 46 (jc j).toArray 13 (.int .i64 j.beg) rfl
  rw [size_lit] at q13
  have p14 := stay bl1 (lit_cell w 46 (jc (j.re xa xc)).toArray 14 (.int .i64 j.fin) rfl)
  have q14 := lit_cell (w.alloc (.cells (jc (j.re xa xc)).toArray 46)) 46 (jc j).toArray 14 (.int .i64 j.fin) rfl
  rw [size_lit] at q14
  have p15 := stay bl1 (lit_cell w 46 (jc (j.re xa xc)).toArray 15 (.int .u32 j.on) rfl)
  have q15 := lit_cell (w.alloc (.cells (jc (j.re xa xc)).toArray 46)) 46 (jc j).toArray 15 (.int .u32 j.on) rfl
  rw [size_lit] at q15
  have p16 := stay bl1 (lit_cell w 46 (jc (j.re xa xc)).toArray 16 (.int .i64 j.exit) rfl)
  have q16 := lit_cell (w.alloc (.cells (jc (j.re xa xc)).toArray 46)) 46 (jc j).toArray 16 (.int .i64 j.exit) rfl
  rw [size_lit] at q16
  have kD := samespec j.s D xa xc W0 hD hl (h1.below (by rw [hW0]; exact bl)) (h2.below (by rw [hW0]; exact bl))
  rw [← hW0] at bl
  replace hD := hid hD
  replace h1 := hid h1
  replace h2 := hid h2
  clear bl0 bl1
  go_enter Tryz.func34, Tryz.ntmps34
  go_wp2_with fail
  rw [← hW0]
  refine kD.mono ?_
  rintro e w1 ⟨rfl, hb1⟩
  have D1 := bnext bl hb1
  rw [← hW0] at p11 q11
  rw [← hW0] at p12 q12
  rw [← hW0] at p13 q13
  rw [← hW0] at p14 q14
  rw [← hW0] at p15 q15
  rw [← hW0] at p16 q16
  replace p11 := stay hb1 p11
  replace q11 := stay hb1 q11
  replace p12 := stay hb1 p12
  replace q12 := stay hb1 q12
  replace p13 := stay hb1 p13
  replace q13 := stay hb1 q13
  replace p14 := stay hb1 p14
  replace q14 := stay hb1 q14
  replace p15 := stay hb1 p15
  replace q15 := stay hb1 q15
  replace p16 := stay hb1 p16
  replace q16 := stay hb1 q16
  go_wp2
  go_ret
  exact ⟨rfl, D1⟩

def pv20 (b o k c b' o' c' i : Nat) (X : Job) (xa : Option Addr) (xc : Nat) : List Value := [.slice (some ⟨b, o, none⟩) k c, .int .i64 (i : Int), .pointer (some ⟨b, o + i * 17, none⟩), .agg (jc (X.re xa xc)).toArray, .slice (some ⟨b', o', none⟩) k c', .int .i64 (i : Int), .pointer (some ⟨b', o' + i * 17, none⟩), .agg (jc X).toArray, .bool true, .bool false]

theorem reJ_at : ∀ {A B : List (Job × List Dp)} (_ : ReJ A B) (i : Nat) (hi : i < A.length) (hj : i < B.length), (∃ x y, B[i].1 = A[i].1.re x y) ∧ B[i].2 = A[i].2
  | p :: r, q :: t, h, 0, _, _ => ⟨h.1, h.2.1⟩
  | p :: r, q :: t, h, i + 1, hi, hj => reJ_at h.2.2 i (by simpa using hi) (by simpa using hj)
  | [], _, _, i, hi, _ => by simp at hi
  | p :: r, [], h, i, _, hj => by simp at hj

end Go.Proofs.YtomdghodbkhkaaaGreatDoor
