/- JournalKept: what stays in memory while the journal works. -/
import Derived.Test.YtcbgnodmamcmkaaKeptS
namespace Go.Proofs.Ytcbgnodmamcmkaa
open Go.RowKit

/-- A life, as it is handed in. -/
structure Lf where
  wa : Option Addr
  wl : Nat
  wc : Nat
  ws : List Int
  arm : Int
  keep : Int
  torn : Int
  again : Int

def Lf.cells (x : Lf) : List Value := [.slice x.wa x.wl x.wc, .int .i64 x.arm, .int .i64 x.keep, .int .i64 x.torn, .int .i64 x.again]

def LAt (w : World) (a : Option Addr) (Ls : List Lf) : Prop := CAt w a (Ls.flatMap Lf.cells) ∧ ∀ y ∈ Ls, y.ws.length = y.wl ∧ y.wl ≤ y.wc ∧ CAt w y.wa (y.ws.map fun k => Value.int .i64 k)

theorem lfLen (Ls : List Lf) : (Ls.flatMap Lf.cells).length = Ls.length * 5 := by
  induction Ls with
  | nil => rfl
  | cons y r ih => rw [List.flatMap_cons, List.length_append, ih]; simp [Lf.cells]; omega

theorem lf_get : ∀ (Ls : List Lf) (j k : Nat) (h : j < Ls.length), k < 5 → (Ls.flatMap Lf.cells)[j * 5 + k]? = (Lf.cells Ls[j])[k]?
  | [], j, k, h, _ => by simp at h
  | y :: r, 0, k, h, hk => by
    simp only [List.flatMap_cons, Nat.zero_mul, Nat.zero_add, List.getElem_cons_zero]
    rw [List.getElem?_append_left (by simp [Lf.cells]; omega)]
  | y :: r, j + 1, k, h, hk => by
    simp only [List.flatMap_cons, List.getElem_cons_succ]
    rw [List.getElem?_append_right (by simp [Lf.cells]; omega), ← lf_get r j k (by simpa using h) hk]
    congr 1
    simp [Lf.cells]; omega

theorem LAt.below {w w' : World} {a : Option Addr} {Ls : List Lf} (h : LAt w a Ls) (hb : Below w.heap.size w w') : LAt w' a Ls := ⟨h.1.below hb, fun y hy => ⟨(h.2 y hy).1, (h.2 y hy).2.1, (h.2 y hy).2.2.below hb⟩⟩

theorem LAt.one {w : World} {a : Option Addr} {Ls : List Lf} (h : LAt w a Ls) {j : Nat} (hj : j < Ls.length) : ∃ b o, a = some ⟨b, o, none⟩ ∧
    w.cell? ⟨b, o + j * 5, none⟩ = some (.slice Ls[j].wa Ls[j].wl Ls[j].wc) ∧ w.cell? ⟨b, o + j * 5 + 1, none⟩ = some (.int .i64 Ls[j].arm) ∧ w.cell? ⟨b, o + j * 5 + 2, none⟩ = some (.int .i64 Ls[j].keep) ∧ w.cell? ⟨b, o + j * 5 + 3, none⟩ = some (.int .i64 Ls[j].torn) ∧ w.cell? ⟨b, o + j * 5 + 4, none⟩ = some (.int .i64 Ls[j].again) := by
  have hlen := lfLen Ls
  obtain ⟨b, o, e, hc⟩ := h.1 (fun e => by rw [e] at hlen; simp at hlen; omega)
  have key : ∀ r (hr : r < 5), w.cell? ⟨b, o + (j * 5 + r), none⟩ = some ((Lf.cells Ls[j])[r]'(by simp [Lf.cells]; omega)) := fun r hr => by
    have hlt : j * 5 + r < (Ls.flatMap Lf.cells).length := by omega
    rw [hc _ hlt]
    have := lf_get Ls j r hj hr
    rw [List.getElem?_eq_getElem hlt, List.getElem?_eq_getElem (by simp [Lf.cells]; omega)] at this
    exact this
  exact ⟨b, o, e, key 0 (by omega), key 1 (by omega), key 2 (by omega), key 3 (by omega), key 4 (by omega)⟩

theorem ints_at {w : World} {a : Option Addr} {ws : List Int} (h : CAt w a (ws.map fun k => Value.int .i64 k)) {i : Nat} (hi : i < ws.length) : ∃ b o, a = some ⟨b, o, none⟩ ∧ w.cell? ⟨b, o + i, none⟩ = some (.int .i64 ws[i]) := by
  obtain ⟨b, o, e, hc⟩ := h (fun e => by simp at e; subst e; simp at hi)
  exact ⟨b, o, e, by have := hc i (by simpa using hi); simpa using this⟩

/-- What stays, whatever turns within T: the records, and the copy of a life at gx. -/
structure Stay (base : Nat) (w0 w : World) (T : Nat → Prop) (v : Value) (M : List Rm) (all : List KB) : Prop where
  bel : Below base w0 w
  lowT : ∀ k, T k → base ≤ k
  row : AllR w base v M.length (M.flatMap Rm.cells)
  rowT : ∀ k, v.ownBlock = some k → ¬ T k
  bod : ∀ r ∈ M, At w r.a r.b ∧ ∀ ad, r.a = some ad → ¬ T ad.block ∧ ad.block < w.heap.size
  apart : ∀ r ∈ M, ∀ ad, r.a = some ad → v.ownBlock ≠ some ad.block
  is : AllM all M

theorem Stay.rat {base : Nat} {w0 w : World} {T : Nat → Prop} {v : Value} {M : List Rm} {all : List KB} {a : Option Addr} {n c : Nat} (h : Stay base w0 w T v M all) (hv : v = .slice a n c) : RAt w a M := by
  obtain ⟨a', c', e, _, hc, _⟩ := h.row.form
  rw [hv] at e
  simp only [Value.slice.injEq] at e
  obtain ⟨rfl, _, _⟩ := e
  exact ⟨hc, fun i hi => (h.bod i hi).1⟩

/-- A step that turns only what is in T, or new. -/
theorem Stay.step {base : Nat} {w0 w w' : World} {T T' : Nat → Prop} {v : Value} {M : List Rm} {all : List KB} (h : Stay base w0 w T v M all) (hk : Kp T w w') (hg : ∀ k, T' k → T k ∨ w.heap.size ≤ k) (hbw : base ≤ w.heap.size) : Stay base w0 w' T' v M all := by
  refine ⟨h.bel.trans (hk.below h.lowT hbw), fun k e => ?_, h.row.kp hk h.rowT, fun k e e2 => ?_, fun r hr => ⟨(h.bod r hr).1.kp hk (fun ad e => ((h.bod r hr).2 ad e).1), fun ad e => ⟨fun e2 => ?_, ?_⟩⟩, h.apart, h.is⟩
  · rcases hg k e with h1 | h1
    · exact h.lowT k h1
    · omega
  · rcases hg k e2 with h1 | h1
    · exact h.rowT k e h1
    · have := (h.row.lt k e).2; omega
  · rcases hg _ e2 with h1 | h1
    · exact ((h.bod r hr).2 ad e).1 h1
    · have := ((h.bod r hr).2 ad e).2; omega
  · exact Nat.lt_of_lt_of_le ((h.bod r hr).2 ad e).2 hk.size

theorem Stay.quiet {base : Nat} {w0 w w' : World} {T : Nat → Prop} {v : Value} {M : List Rm} {all : List KB} (h : Stay base w0 w T v M all) (hb : Below w.heap.size w w') (hbw : base ≤ w.heap.size) : Stay base w0 w' T v M all := h.step (Kp.of_below hb) (fun _ e => .inl e) hbw

/-- The set that turns may be another one, none of whose blocks is ours. -/
theorem Stay.swap {base : Nat} {w0 w : World} {T T' : Nat → Prop} {v : Value} {M : List Rm} {all : List KB} (h : Stay base w0 w T v M all) (hg : ∀ k, T' k → T k ∨ w.heap.size ≤ k) (hbw : base ≤ w.heap.size) : Stay base w0 w T' v M all := h.step (Kp.refl _ _) hg hbw

/-- Only the first ones are kept. -/
theorem Stay.cut {base : Nat} {w0 w : World} {T : Nat → Prop} {M : List Rm} {all : List KB} {a : Option Addr} {n c t : Nat} (h : Stay base w0 w T (.slice a n c) M all) (ht : t ≤ all.length) : Stay base w0 w T (.slice a t t) (M.take t) (all.take t) := by
  have hl := allm_len h.is
  have hr := h.row
  obtain ⟨a', c', e, _⟩ := hr.form
  simp only [Value.slice.injEq] at e
  obtain ⟨rfl, rfl, rfl⟩ := e
  have hlt : (M.take t).length = t := by rw [List.length_take]; omega
  refine ⟨h.bel, h.lowT, ?_, ?_, fun r hr => h.bod r (List.mem_of_mem_take hr), fun r hr ad e e2 => ?_, ?_⟩
  · rw [hlt]
    have := hr.cut (m := t) (by omega)
    have e2 : (M.take t).flatMap Rm.cells = (M.flatMap Rm.cells).take (t * 3) := by
      have hsp : M.flatMap Rm.cells = (M.take t).flatMap Rm.cells ++ (M.drop t).flatMap Rm.cells := by rw [← List.flatMap_append, List.take_append_drop]
      rw [hsp, List.take_left' (by rw [rmLen, hlt])]
    rw [e2]
    exact this
  · intro k e
    refine h.rowT k ?_
    cases a with
    | none => cases e
    | some ad => exact e
  · refine h.apart r (List.mem_of_mem_take hr) ad e ?_
    cases a with
    | none => cases e2
    | some ad => exact e2
  · show (M.take t).map Rm.plain = _
    rw [List.map_take, show M.map Rm.plain = plainL 1 all from h.is, plainL_take]

/-- One more record. -/
theorem Stay.push {base : Nat} {w0 w w' : World} {T : Nat → Prop} {v v' : Value} {M : List Rm} {all : List KB} {r : Rm} {kb : KB} (h : Stay base w0 w T v M all) (hbw : base ≤ w.heap.size) (hT : ∀ k, T k → k < w.heap.size) (ho : w'.ownsRow base 27 3 v' (M.length + 1) (M.flatMap Rm.cells ++ r.cells)) (hg : w.grownBy w' v.ownBlock)
    (hv : v'.ownBlock = v.ownBlock ∨ v'.ownBlock = some w.heap.size) (hr : At w r.a r.b) (hrT : ∀ ad, r.a = some ad → ¬ T ad.block ∧ ad.block < w.heap.size ∧ v.ownBlock ≠ some ad.block) (hp : r.plain = (((all.length + 1 : Nat) : Int), (kb.1.toNat : Int), kb.2)) : Stay base w0 w' T v' (M ++ [r]) (all ++ [kb]) := by
  have hk := Kp.grown hg
  have hbel : Below base w w' := hk.below (fun k e => (h.row.lt k e).1) hbw
  refine ⟨h.bel.trans hbel, h.lowT, .inl ?_, fun k e e2 => ?_, fun q hq => ?_, fun q hq ad e e2 => ?_, ?_⟩
  · rw [List.length_append, List.flatMap_append]
    simpa using ho
  · rcases hv with h1 | h1
    · rw [h1] at e; exact h.rowT k e e2
    · rw [h1] at e; cases e; have := hT _ e2; omega
  · rcases List.mem_append.1 hq with h1 | h1
    · refine ⟨(h.bod q h1).1.kp hk (fun ad e e2 => h.apart q h1 ad e e2), fun ad e => ⟨((h.bod q h1).2 ad e).1, Nat.lt_of_lt_of_le ((h.bod q h1).2 ad e).2 hk.size⟩⟩
    · simp at h1; subst h1
      exact ⟨hr.kp hk (fun ad e e2 => (hrT ad e).2.2 e2), fun ad e => ⟨(hrT ad e).1, Nat.lt_of_lt_of_le (hrT ad e).2.1 hk.size⟩⟩
  · have hlt : ad.block < w.heap.size := by
      rcases List.mem_append.1 hq with h1 | h1
      · exact ((h.bod q h1).2 ad e).2
      · simp at h1; subst h1; exact (hrT ad e).2.1
    rcases hv with h1 | h1
    · rw [h1] at e2
      rcases List.mem_append.1 hq with h2 | h2
      · exact h.apart q h2 ad e e2
      · simp at h2; subst h2; exact (hrT ad e).2.2 e2
    · rw [h1] at e2
      have : w.heap.size = ad.block := by simpa using e2
      omega
  · show (M ++ [r]).map Rm.plain = _
    rw [List.map_append, show M.map Rm.plain = plainL 1 all from h.is, plainL_snoc, List.map_cons, List.map_nil, hp, show 1 + all.length = all.length + 1 by omega]

theorem Good.wide {st : Nat → List UInt8} {F : Fs} {all : List KB} {t lo : Nat} (h : Good st F (all.take t) lo) (ht : t ≤ all.length) : Good st F all lo := by
  have hl : (all.take t).length = t := by rw [List.length_take]; omega
  obtain ⟨f, q, hv, a, m, z, h1, h2, h3, h4, h5, h6, h7, h8⟩ := h
  rw [hl] at h3 h5
  rw [seg_take h5] at h6 h7
  exact ⟨f, q, hv, a, m, z, h1, h2, by omega, h4, by omega, h6, h7, h8⟩

theorem crash_free (d : Dsk) (k t : Nat) : Free (d.crashD (k : Int) (t : Int)) ∧ (d.crashD (k : Int) (t : Int)).ops = [] ∧ Dsk.crashE (k : Int) (t : Int) = 0 ∧ (d.crashD (k : Int) (t : Int)).cur = runs (kept d.ops k t) d.dur := by
  have h : ¬ ((k : Int) < 0 ∨ (t : Int) < 0) := by omega
  unfold Dsk.crashD Dsk.crashE
  rw [if_neg h, if_neg h]
  exact ⟨⟨rfl, rfl, rfl⟩, rfl, rfl, rfl⟩

/-- What holds between two lives. -/
structure Rest (base : Nat) (w0 wr : World) (p : Nat) (x : Dx) (d : Dsk) (v : Value) (M : List Rm) (all : List KB) (i : Nat) : Prop where
  stay : Stay base w0 wr (fun k => Turn p x k ∨ Reads x k) v M all
  sole : Sole base wr p x d
  ops : d.ops = []
  free : Free d
  good : Good stK d.cur all all.length
  small : ∀ r ∈ all, r.2.length ≤ 65536
  few : all.length ≤ 30 * i

/-- What holds while a journal works. -/
structure Work (base : Nat) (w0 wr : World) (p gj gx : Nat) (x : Dx) (j : Jr) (L : Lf) (v : Value) (M : List Rm) (all : List KB) (n : Nat) : Prop where
  stay : Stay base w0 wr (fun k => (Turn p x k ∨ Reads x k) ∨ k = gj) v M all
  jis : JIs base wr gj p x j
  life : Life stK all j
  few : all.length ≤ n
  ops : j.d.ops.length ≤ 8 * n
  lle : j.l ≤ n
  l0 : wr.cell? ⟨gx, 0, none⟩ = some (.slice L.wa L.wl L.wc)
  l2 : wr.cell? ⟨gx, 2, none⟩ = some (.int .i64 L.keep)
  l3 : wr.cell? ⟨gx, 3, none⟩ = some (.int .i64 L.torn)
  l4 : wr.cell? ⟨gx, 4, none⟩ = some (.int .i64 L.again)
  offT : ¬ Turn p x gx
  offJ : gx ≠ gj
  offR : ∀ k, v.ownBlock = some k → k ≠ gx
  big : base ≤ gj

theorem Work.now {base : Nat} {w0 wr w' : World} {p gj gx : Nat} {x : Dx} {j j' : Jr} {L : Lf} {v : Value} {M : List Rm} {all : List KB} {n n' : Nat} (h : Work base w0 wr p gj gx x j L v M all n) (hbw : base ≤ wr.heap.size) (hj : JNow base wr w' gj p x j') (hlife : Life stK all j') (hops : j'.d.ops.length ≤ 8 * n') (hl : j'.l ≤ n') (hn : n ≤ n') :
    ∃ x', Work base w0 w' p gj gx x' j' L v M all n' := by
  obtain ⟨x', h1, h2, h3⟩ := hj
  have hgl := World.block_lt_of_cell? wr _ h.l0
  have hnT : ¬ (Turn p x gx ∨ gx = gj) := fun e => e.elim h.offT h.offJ
  refine ⟨x', h.stay.step (T' := fun k => (Turn p x' k ∨ Reads x' k) ∨ k = gj) (h3.mono (fun k _ e => e.elim (fun e => .inl (.inl e)) .inr)) (fun k e => ?_) hbw, h1, hlife, Nat.le_trans h.few hn, hops, hl, cell_kp h3 hnT h.l0, cell_kp h3 hnT h.l2, cell_kp h3 hnT h.l3, cell_kp h3 hnT h.l4, fun e => ?_, h.offJ, h.offR, h.big⟩
  · rcases e with (e | e) | e
    · rcases h2.1 k e with h4 | h4
      · exact .inl (.inl (.inl h4))
      · exact .inr h4
    · rcases h2.2 k e with h4 | h4
      · exact .inl (.inl (.inr h4))
      · exact .inr h4
    · exact .inl (.inr e)
  · rcases h2.1 gx e with h4 | h4
    · exact h.offT h4
    · have : (⟨gx, 0, none⟩ : Addr).block = gx := rfl
      omega

theorem Work.quiet {base : Nat} {w0 wr w' : World} {p gj gx : Nat} {x : Dx} {j : Jr} {L : Lf} {v : Value} {M : List Rm} {all : List KB} {n : Nat} (h : Work base w0 wr p gj gx x j L v M all n) (hbw : base ≤ wr.heap.size) (hb : Below wr.heap.size wr w') : Work base w0 w' p gj gx x j L v M all n :=
  ⟨h.stay.quiet hb hbw, h.jis.below hb, h.life, h.few, h.ops, h.lle, cell_b hb h.l0, cell_b hb h.l2, cell_b hb h.l3, cell_b hb h.l4, h.offT, h.offJ, h.offR, h.big⟩

theorem stpsD_few : ∀ (S : List Stp) (d : Dsk), (stpsD S d).ops.length ≤ d.ops.length + S.length
  | [], d => by simp [stpsD]
  | s :: r, d => by
    have h1 := s.few d
    have h2 := stpsD_few r (s.D d)
    simp only [stpsD, List.length_cons]
    split <;> omega

theorem Jr.sn_few (j : Jr) (b : List UInt8) : (j.sn b).d.ops.length ≤ j.d.ops.length + 6 ∧ (j.sn b).l = j.l := by
  have h := stpsD_few (snSteps j.oth (entB j.l 255 b)) j.d
  unfold Jr.sn Jr.snD
  split
  · exact ⟨by omega, rfl⟩
  · split
    · exact ⟨by simpa [snSteps] using h, rfl⟩
    · exact ⟨by simpa [snSteps] using h, rfl⟩
theorem Jr.sy_few (j : Jr) : j.sy.d.ops.length ≤ j.d.ops.length ∧ j.sy.l = j.l := by
  have h := j.d.syncD_few
  unfold Jr.sy
  split
  · exact ⟨Nat.le_refl _, rfl⟩
  · split
    · exact ⟨h, rfl⟩
    · exact ⟨h, rfl⟩
theorem Jr.ap_few (j : Jr) (k : UInt8) (b : List UInt8) : (j.ap k b).d.ops.length ≤ j.d.ops.length + 1 ∧ (j.ap k b).l ≤ j.l + 1 := by
  have h := j.d.appD_few 0 (entB (j.l + 1) k b)
  unfold Jr.ap
  split
  · exact ⟨by omega, by omega⟩
  · split
    · exact ⟨h, Nat.le_refl _⟩
    · exact ⟨h, by simp⟩

theorem JIs.kp {S : Nat → Prop} {base : Nat} {w w' : World} {g p : Nat} {x : Dx} {j : Jr} (h : JIs base w g p x j) (hk : Kp S w w') (hn : ∀ k, S k → ¬ Turn p x k ∧ ¬ Reads x k ∧ k ≠ g) : JIs base w' g p x j :=
  ⟨h.blk.kp hk (fun e => (hn g e).2.2 rfl), ⟨⟨h.disk.is.1.kp hk (fun k e e2 => (hn k e2).1 e) (fun k e e2 => (hn k e2).2.1 e), h.disk.is.2⟩, h.disk.turn, h.disk.reads, h.disk.inv⟩, h.big, h.sepT, h.sepR⟩

end Go.Proofs.Ytcbgnodmamcmkaa
