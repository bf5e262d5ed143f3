/- Both sides of the law while its script is played. -/
import Derived.Test.YtpngnmogjmdmhaaPv14
namespace Go.Proofs.Ytpngnmogjmdmhaa
open Go.RowKit
set_option linter.unusedVariables false

/-- A call of the script. -/
structure Opr where
  kind : Int
  on : Int
  f : Int
  a : Option Addr
  c : Nat
  body : List UInt8
  n : Int
  ec : Int
  tn : Int

def OAt (w : World) (a0 : Option Addr) (ops : List Opr) : Prop := ops ≠ [] → ∃ b o, a0 = some ⟨b, o, none⟩ ∧ ∀ i (h : i < ops.length), w.cell? ⟨b, o + i * 7, none⟩ = some (.int .i64 ops[i].kind) ∧ w.cell? ⟨b, o + i * 7 + 1, none⟩ = some (.int .i64 ops[i].on) ∧ w.cell? ⟨b, o + i * 7 + 2, none⟩ = some (.int .i64 ops[i].f) ∧ w.cell? ⟨b, o + i * 7 + 3, none⟩ = some (.slice ops[i].a ops[i].body.length ops[i].c) ∧ w.cell? ⟨b, o + i * 7 + 4, none⟩ = some (.int .i64 ops[i].n) ∧ w.cell? ⟨b, o + i * 7 + 5, none⟩ = some (.int .i64 ops[i].ec) ∧ w.cell? ⟨b, o + i * 7 + 6, none⟩ = some (.int .i64 ops[i].tn)

theorem and_one (x : Int) : ∃ on : Nat, on < 2 ∧ bits .and .i64 x 1 = (on : Int) := by
  have key : ∀ N : Nat, N ≤ 1 → IntKind.i64.wrap (N : Int) = (N : Int) := fun N hN => by
    rcases (show N = 0 ∨ N = 1 by omega) with rfl | rfl <;> rfl
  unfold bits
  simp only
  have hle : (BitVec.ofInt IntKind.i64.bits x &&& BitVec.ofInt IntKind.i64.bits 1).toNat ≤ 1 := by
    rw [BitVec.toNat_and]
    refine Nat.le_trans Nat.and_le_right ?_
    decide
  exact ⟨_, by omega, key _ hle⟩

def PlayAt (base gd gl on : Nat) (W : World) (b : Nat) : Prop := ∃ p q x z y u d e, PV base W gd gl p q x z y u d e b ∧ LR W gd gl on p q (y.cells d) (u.cells e)
abbrev Play (base gd gl : Nat) (W : World) (b : Nat) : Prop := PlayAt base gd gl 0 W b

theorem PlayAt.flip {base gd gl on : Nat} {W : World} {b : Nat} (hon : on < 2) (h : PlayAt base gd gl on W b) : PlayAt base gd gl (1 - on) W b := by
  obtain ⟨p, q, x, z, y, u, d, e, V, R⟩ := h
  exact ⟨q, p, z, x, u, y, e, d, V.flip, R.flip hon⟩
theorem PlayAt.at {base gd gl : Nat} {W : World} {b : Nat} (h : PlayAt base gd gl 0 W b) (on : Nat) (hon : on < 2) : PlayAt base gd gl on W b := by
  rcases (show on = 0 ∨ on = 1 by omega) with rfl | rfl
  · exact h
  · exact h.flip (by decide)
theorem PlayAt.back {base gd gl on : Nat} {W : World} {b : Nat} (hon : on < 2) (h : PlayAt base gd gl on W b) : PlayAt base gd gl 0 W b := by
  rcases (show on = 0 ∨ on = 1 by omega) with rfl | rfl
  · exact h
  · exact h.flip (by decide)
theorem PlayAt.below {base gd gl on : Nat} {W W' : World} {b : Nat} (h : PlayAt base gd gl on W b) (hb : Below W.heap.size W W') : PlayAt base gd gl on W' b := by
  obtain ⟨p, q, x, z, y, u, d, e, V, R⟩ := h
  exact ⟨p, q, x, z, y, u, d, e, V.below hb, R.below hb⟩
theorem PV.mono {base : Nat} {W : World} {gd gl p q : Nat} {x z : Dx} {y u : RDx} {d e : Dsk} {m m' : Nat} (h : PV base W gd gl p q x z y u d e m) (hm : m ≤ m') : PV base W gd gl p q x z y u d e m' :=
  ⟨h.s1, h.s2, h.ap, h.r1, h.r2, h.o1, h.o2, Nat.le_trans h.f1 hm, Nat.le_trans h.f2 hm, h.lt1, h.lt2, h.ne⟩

theorem range_row {w : World} {g : Nat} {a b : Array Value} {t : TypeId} {fr : Nat × Nat} (h : w.heap[g]? = some (.cells (a ++ b) t fr)) : w.rangeAt g 0 a.toList ∧ w.rangeAt g a.size b.toList := by
  refine ⟨fun j v hv => row_cell h _ _ ?_, fun j v hv => row_cell h _ _ ?_⟩
  · rw [Array.getElem?_toList] at hv
    have hj : j < a.size := (Array.getElem?_eq_some_iff.1 hv).1
    rw [Nat.zero_add, Array.getElem?_append, if_pos hj]; exact hv
  · rw [Array.getElem?_toList] at hv
    rw [Array.getElem?_append, if_neg (by omega), Nat.add_sub_cancel_left]; exact hv

theorem play_start {w w1 w2 w4 w5 : World} {p q : Nat} {x z : Dx} {L : Array Value} (hL : L = rx0.cells Dsk.new ++ rx0.cells Dsk.new)
    (h1 : DIs w1 p x Dsk.new) (t1 : ∀ k, Turn p x k → w.heap.size ≤ k) (r1 : ∀ k, ¬ Reads x k) (b1 : Below w.heap.size w w1)
    (h2 : DIs w2 q z Dsk.new) (t2 : ∀ k, Turn q z k → w1.heap.size ≤ k) (r2 : ∀ k, ¬ Reads z k) (b2 : Below w1.heap.size w1 w2)
    (b4 : Below (w2.alloc (.cells #[.pointer (some ⟨p, 0, none⟩), .pointer (some ⟨q, 0, none⟩)] 36)).heap.size (w2.alloc (.cells #[.pointer (some ⟨p, 0, none⟩), .pointer (some ⟨q, 0, none⟩)] 36)) w4) (b5 : Below w4.heap.size w4 w5) :
    Play w.heap.size w2.heap.size w5.heap.size (w5.alloc (.cells L 42)) 0 ∧ Below w.heap.size w (w5.alloc (.cells L 42)) ∧ w.heap.size ≤ w2.heap.size ∧ w.heap.size ≤ w5.heap.size := by
  subst hL
  have bb := bnext (bnext (bnext (below_lit w2 (.cells #[.pointer (some ⟨p, 0, none⟩), .pointer (some ⟨q, 0, none⟩)] 36)) b4) b5) (below_lit w5 (.cells (rx0.cells Dsk.new ++ rx0.cells Dsk.new) 42))
  have s1 : Sole w.heap.size w1 p x Dsk.new := ⟨h1, t1, fun k e => absurd e (r1 k), Dsk.new_inv⟩
  have s2 : Sole w.heap.size w2 q z Dsk.new := ⟨h2, fun k e => Nat.le_trans b1.size (t2 k e), fun k e => absurd e (r2 k), Dsk.new_inv⟩
  have z1 := b1.size
  have z2 := b2.size
  have z3 := size_lit w2 (.cells #[.pointer (some ⟨p, 0, none⟩), .pointer (some ⟨q, 0, none⟩)] 36)
  have z4 := b4.size
  have z5 := b5.size
  have z6 := size_lit w5 (.cells (rx0.cells Dsk.new ++ rx0.cells Dsk.new) 42)
  have hd := heap_alloc_new w2 (.cells #[.pointer (some ⟨p, 0, none⟩), .pointer (some ⟨q, 0, none⟩)] 36)
  have hd' := row_b hd (bnext (bnext b4 b5) (below_lit w5 (.cells (rx0.cells Dsk.new ++ rx0.cells Dsk.new) 42)))
  have hl := heap_alloc_new w5 (.cells (rx0.cells Dsk.new ++ rx0.cells Dsk.new) 42)
  refine ⟨⟨p, q, x, z, rx0, rx0, Dsk.new, Dsk.new, ⟨(s1.below b2).below bb, s2.below bb, fun k => ⟨fun h => ⟨fun h9 => ?_, fun h9 => r2 k h9⟩, fun h h9 => r1 k h9⟩, RD.new _ _, RD.new _ _, fun b hb => ?_, fun b hb => ?_, Nat.le_refl _, Nat.le_refl _, by omega, by omega, by omega⟩,
    ⟨row_cell hd' 0 _ rfl, row_cell hd' 1 _ rfl, fun k => row_free hd' k, (range_row hl).1, (range_row hl).2, fun k => row_free hl k, rfl, rfl⟩⟩, bnext (bnext b1 b2) bb, by omega, by omega⟩
  · have := t2 k h9; have := h1.1.turn_lt k h; omega
  · rcases hb with hb | hb
    · have := h1.1.turn_lt b hb; exact ⟨by omega, by omega⟩
    · exact absurd hb (r1 b)
  · rcases hb with hb | hb
    · have := h2.1.turn_lt b hb; exact ⟨by omega, by omega⟩
    · exact absurd hb (r2 b)

theorem kd_of {base : Nat} {W : World} {gd gl p q : Nat} {x z : Dx} {y u : RDx} {d e : Dsk} {m : Nat} (V : PV base W gd gl p q x z y u d e m) (hm : m ≤ 1000000) (hbase : base ≤ W.heap.size) (hgd : base ≤ gd) (hgl : base ≤ gl)
    (kk on f n ec tn : Int) (ba : Option Addr) (bn bc : Nat) (b : List UInt8) (hnb : n ≤ 9223372036854775807) (htb : tn ≤ 9223372036854775807) (hbl : b.length = bn) (hbn : bn ≤ 2000) (hat : At W ba b) (hcap : b.length ≤ bc) (hlow : b ≠ [] → ∀ ad, ba = some ad → ad.block < base) :
    ∀ w1, Below W.heap.size W w1 → Calls Try.prog 22 #[.pointer (some ⟨p, 0, none⟩), .agg (y.cells d), .agg #[.int .i64 kk, .int .i64 on, .int .i64 f, .slice ba bn bc, .int .i64 n, .int .i64 ec, .int .i64 tn]] w1 (DPost base w1 p x (PT gd gl p q x z) (stepD d kk f n ec tn b)) := fun w1 hb => by
  have V1 := V.below hb
  have hPb : ∀ k, PT gd gl p q x z k → base ≤ k := fun k h => by
    rcases h with (h | h) | h | h
    · exact V.s1.turn k h
    · exact V.s2.turn k h
    · rw [h]; exact hgd
    · rw [h]; exact hgl
  exact does_all base p x (PT gd gl p q x z) y d kk on f n ec tn ba bn bc b w1 V1.s1 (Nat.le_trans hbase hb.size) V1.r1 (fun k h => .inl (.inl h)) V1.lt (Nat.le_trans V.f1 hm) hnb htb hbl hbn ⟨hat.below hb, hcap, fun h ad ha ht => by have := hlow h ad ha; have := hPb _ ht; omega⟩

theorem step_below {base : Nat} {W W' : World} {gd gl p q : Nat} {x z : Dx} {y u : RDx} {d e : Dsk} {m : Nat} (V : PV base W gd gl p q x z y u d e m) (hgl : base ≤ gl) (hbase : base ≤ W.heap.size) (hk : Kp (fun k => Turn p x k ∨ k = gl) W W') : Below base W W' :=
  hk.below (fun k h => h.elim (V.s1.turn k) (fun e => e ▸ hgl)) hbase
theorem copy_below {base : Nat} {W W' : World} {gd gl : Nat} (hgd : base ≤ gd) (hgl : base ≤ gl) (hbase : base ≤ W.heap.size) (hk : Kp (fun k => k = gd ∨ k = gl) W W') : Below base W W' :=
  hk.below (fun k h => h.elim (fun e => e ▸ hgd) (fun e => e ▸ hgl)) hbase
theorem row44_set {w : World} {g : Nat} {cs : Array Value} (h : w.heap[g]? = some (.cells cs 44 (0, 0))) (j : Nat) (v : Value) : (w.setCell ⟨g, j, none⟩ v).heap[g]? = some (.cells (cs.setIfInBounds j v) 44 (0, 0)) := by
  rw [setCell_eq_setRow w g j _ 44 (0, 0) _ h, setRow_heap w g _ _ 44 _ h]
theorem wf_le {n : Int} (h : (Lit.int .i64 n).wf = true) : n ≤ 9223372036854775807 := by
  have h2 : (decide (IntKind.i64.min ≤ n) && decide (n ≤ IntKind.i64.max)) = true := h
  rw [Bool.and_eq_true] at h2
  have h3 : n ≤ IntKind.i64.max := of_decide_eq_true h2.2
  have h4 : IntKind.i64.max = 9223372036854775807 := rfl
  rw [h4] at h3
  exact h3

end Go.Proofs.Ytpngnmogjmdmhaa
