/- JobTells: what its walk carries. -/
import Derived.Test.YtlhmlfinflodaaaOnceP
import Derived.Test.YtlhmlfinflodaaaRf2
import Derived.Test.YtlhmlfinflodaaaFnd
namespace Go.Proofs.Ytlhmlfinflodaaa
open Go.RowKit
set_option linter.unusedVariables false

/-- What was told: a job with dependencies of its own, or no job. -/
def AT (base : Nat) (err : Int) (J : Job) (D : List Dp) (A : Job) (w : World) : Prop := (err = 0 ∧ ∃ x y, A = J.re x y ∧ J.s.dn ≤ y ∧ DOwn w base (.slice x J.s.dn y) D) ∨ (err ≠ 0 ∧ A = job0)
theorem BT.all {base : Nat} {err : Int} {J : Job} {D : List Dp} {e : Ending} {w' : World} (h : BT base err J D e w') : ∃ A, e = .returned (.tuple #[.agg (jc A).toArray, .int .i64 err]) ∧ AT base err J D A w' := by
  rcases h with ⟨rfl, x, y, rfl, hy, ho⟩ | ⟨h, rfl⟩
  · exact ⟨_, rfl, .inl ⟨rfl, x, y, rfl, hy, ho⟩⟩
  · exact ⟨job0, rfl, .inr ⟨h, rfl⟩⟩
theorem AT.of_re {base : Nat} {err : Int} {J : Job} {D : List Dp} {A : Job} {w : World} {u : Option Addr} {v : Nat} (h : AT base err (J.re u v) D A w) : AT base err J D A w := h
theorem AT.below {base : Nat} {err : Int} {J : Job} {D : List Dp} {A : Job} {w w' : World} (h : AT base err J D A w) (hb : Below w.heap.size w w') : AT base err J D A w' := by
  rcases h with ⟨h1, x, y, h2, h3, h4⟩ | h
  · exact .inl ⟨h1, x, y, h2, h3, h4.below hb⟩
  · exact .inr h
theorem AT.own {base : Nat} {err : Int} {J : Job} {D : List Dp} {A : Job} {w : World} (h : AT base err J D A w) (hD : D.length = J.s.dn) : ∃ DA, DA.length = A.s.dn ∧ DOwn w base (.slice A.s.da A.s.dn A.s.dc) DA ∧ A.s.dn ≤ A.s.dc ∧ A.s.dn ≤ J.s.dn := by
  rcases h with ⟨h1, x, y, rfl, h3, h4⟩ | ⟨h1, rfl⟩
  · exact ⟨D, hD, h4, h3, Nat.le_refl _⟩
  · exact ⟨[], rfl, DOwn.nil _ _, Nat.le_refl _, Nat.zero_le _⟩
theorem AT.same {b1 b2 : Nat} {err : Int} {J : Job} {D : List Dp} {A B : Job} {w1 w2 w : World} (h1 : AT b1 err J D A w1) (h2 : AT b2 err J D B w2) (hD : D.length = J.s.dn) (hl : J.s.dn ≤ 4611686018427387904) (k1 : Below w1.heap.size w1 w) (k2 : Below w2.heap.size w2 w) :
    Calls Try.prog 13 #[.agg (jc A).toArray, .agg (jc B).toArray] w fun e w' => e = .returned (.bool true) ∧ Below w.heap.size w w' := by
  rcases h1 with ⟨e1, x, y, rfl, hy, ho⟩ | ⟨e1, rfl⟩
  · rcases h2 with ⟨e2, x', y', rfl, hy', ho'⟩ | ⟨e2, rfl⟩
    · exact samejob (J.re x' y') D x y w hD hl ((ho.below k1).dat) ((ho'.below k2).dat)
    · exact absurd e1 e2
  · rcases h2 with ⟨e2, x', y', rfl, hy', ho'⟩ | ⟨e2, rfl⟩
    · exact absurd e2 e1
    · exact samejob job0 [] none 0 w rfl (by decide) (DAt.nil _ _) (DAt.nil _ _)
theorem row_keep {w w' : World} {b : Nat} {o : Obj} (h : w.heap[b]? = some o) (hb : Below w.heap.size w w') : w'.heap[b]? = some o := by rw [hb.block _ (row_lt h)]; exact h

/-- One dependency's id is written over. -/
theorem DOwn.put {w : World} {base n c g i : Nat} {L : List Dp} (h : DOwn w base (.slice (some ⟨g, 0, none⟩) n c) L) (hn : L.length = n) (hi : i < n) (v : Int) :
    DOwn (w.setCell ⟨g, i * 2 + 1, none⟩ (.int .i64 v)) base (.slice (some ⟨g, 0, none⟩) n c) (L.set i ((dpAt L i).1, v)) := by
  unfold DOwn at *
  rw [List.length_set, hn]
  rw [hn] at h
  rw [← flat_set dc2 2 dc2_len (L := L) (i := i) (by omega) ((dpAt L i).1, v) 1 (.int .i64 v) (by omega) (by rw [dpAt_eq (by omega)]; rfl)]
  exact owns_put h (by omega) _

/-- A list of dependencies of the call's own, whatever they are, behind the job that is told; block b holds that job. -/
structure DL (W wr : World) (base b : Nat) (A : Job) : Prop where
  row : wr.heap[b]? = some (.cells (jc A).toArray 29 (0, 0))
  own : ∃ DA, DA.length = A.s.dn ∧ DOwn wr base (.slice A.s.da A.s.dn A.s.dc) DA
  bel : Below W.heap.size W wr
  off : ∀ y, A.s.da = some y → y.block ≠ b
theorem DL.put {W wr : World} {base b i : Nat} {A : Job} {ga : Nat} (h : DL W wr base b A) (hb : W.heap.size ≤ base) (he : A.s.da = some ⟨ga, 0, none⟩) (hi : i < A.s.dn) (v : Int) : DL W (wr.setCell ⟨ga, i * 2 + 1, none⟩ (.int .i64 v)) base b A := by
  obtain ⟨DA, h1, h2⟩ := h.own
  have hne := h.off _ he
  rw [he] at h2
  have hbl := (owns_blk h2).1
  refine ⟨?_, ⟨DA.set i ((dpAt DA i).1, v), by rw [List.length_set]; exact h1, ?_⟩, Below.setCell h.bel (by dsimp only at hbl ⊢; omega) _, h.off⟩
  · have := (Kp.setCell (Kp.refl (fun k => k = ga) wr) (p := ⟨ga, i * 2 + 1, none⟩) rfl (.int .i64 v)).block b (row_lt h.row) (fun e => hne e.symm)
    rw [this]; exact h.row
  · rw [he]; exact h2.put h1 hi v

end Go.Proofs.Ytlhmlfinflodaaa
