/- JobOnce: its invariant. -/
import Derived.Test.YtlhmlfinflodaaaArg4
namespace Go.Proofs.Ytlhmlfinflodaaa
open Go.RowKit
set_option linter.unusedVariables false

structure OI (w wr : World) (g b7 : Nat) (id : Int) (s : Spc) (D : List Dp) (n : Nat) (J : Job) : Prop where
  row : wr.heap[b7]? = some (.cells (jc J).toArray 29 (0, 0))
  rs : wr.heap[g]? = some (.cells (sc s).toArray 24 (0, 0))
  bel : Below w.heap.size w wr
  idd : J.id = id
  sub : J.sub = 0
  sp : ∃ x y, J.s = s.re x y
  rt : rightB J = true
  dat : DAt wr J.s.da D
  lo : 0 ≤ J.on
  hi : J.on < 4294967296
  off : ∀ p, J.s.da = some p → p.block ≠ b7
  c1 : n ≤ 1
  c2 : J.st = 1 → n = 0

theorem OI.step {w wr w5 : World} {g b7 : Nat} {id : Int} {s : Spc} {D : List Dp} {n : Nat} {J : Job} (h : OI w wr g b7 id s D n J) (hb : Below wr.heap.size wr w5) : OI w w5 g b7 id s D n J :=
  ⟨by rw [hb.block _ (Array.getElem?_eq_some_iff.1 h.row).1]; exact h.row, by rw [hb.block _ (Array.getElem?_eq_some_iff.1 h.rs).1]; exact h.rs, bnext h.bel hb, h.idd, h.sub, h.sp, h.rt, h.dat.below hb, h.lo, h.hi, h.off, h.c1, h.c2⟩

theorem OI.set {w wr w5 : World} {g b7 : Nat} {id : Int} {s : Spc} {D : List Dp} {n n' base : Nat} {J X : Job} (h : OI w wr g b7 id s D n J) (hb : Below wr.heap.size wr w5) (hg : w.heap.size ≤ b7) (hne : g ≠ b7)
    (h1 : X.id = id) (h2 : X.sub = 0) (h3 : ∃ x y, X.s = s.re x y) (h4 : rightB X = true) (h5 : DOwn w5 base (.slice X.s.da X.s.dn X.s.dc) D) (h6 : b7 < base) (h7 : 0 ≤ X.on) (h8 : X.on < 4294967296) (h9 : n' ≤ 1) (h10 : X.st = 1 → n' = 0) :
    OI w (w5.setRow b7 (jc X).toArray) g b7 id s D n' X := by
  have k := h.step hb
  have hoff : ∀ p, X.s.da = some p → p.block ≠ b7 := fun p hp => by
    rw [hp] at h5
    have := (owns_blk h5).1
    omega
  refine ⟨setRow_heap _ _ _ _ _ _ k.row, ?_, below_setRow k.bel hg _, h1, h2, h3, h4, ?_, h7, h8, hoff, h9, h10⟩
  · rw [setRow_other _ _ _ hne]; exact k.rs
  · exact CAt.kp h5.dat (kp_setRow (S := fun i => i = b7) (Kp.refl _ _) rfl _) (fun p hp hk => hoff p hp hk)

def tnAt (L : List Tn) (i : Nat) : Tn := L.getD i ⟨0, 0, 0, 0⟩
theorem tnAt_eq {L : List Tn} {i : Nat} (h : i < L.length) : L[i] = tnAt L i := by simp [tnAt, h]
theorem tn_range {w : World} {b o : Nat} {L : List Tn} (h : TnAt w (some ⟨b, o, none⟩) L) {i : Nat} (hi : i < L.length) : w.rangeAt b (o + i * 4) (tc (tnAt L i)) := by
  intro r v hv
  have hr : r < 4 := by
    rcases Nat.lt_or_ge r 4 with h1 | h1
    · exact h1
    · rw [List.getElem?_eq_none (by rw [tc_len]; exact h1)] at hv; cases hv
  have := flat_cell tc 4 tc_len (by omega) h hi r hr
  rw [this]
  rw [← tnAt_eq hi, List.getElem?_eq_getElem (by rw [tc_len]; exact hr)] at hv
  exact hv
theorem row_lt {w : World} {b : Nat} {o : Obj} (h : w.heap[b]? = some o) : b < w.heap.size := (Array.getElem?_eq_some_iff.1 h).1

end Go.Proofs.Ytlhmlfinflodaaa
