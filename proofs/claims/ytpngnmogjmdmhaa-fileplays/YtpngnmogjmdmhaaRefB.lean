/- The document's disk in memory (musterref06): its files, and what is unsynced, in memory that no disk turns. -/
import Derived.Test.YtpngnmogjmdmhaaMany
namespace Go.Proofs.Ytpngnmogjmdmhaa
open Go.RowKit

/-- Bytes that lie off T. -/
structure FA (W : World) (T : Nat → Prop) (a : Option Addr) (c : Nat) (l : List UInt8) : Prop where
  at_ : At W a l
  cap : l.length ≤ c
  off : l ≠ [] → ∀ ad, a = some ad → ¬ T ad.block

theorem FA.kp {W W' : World} {T : Nat → Prop} {a : Option Addr} {c : Nat} {l : List UInt8} (h : FA W T a c l) (hk : Kp T W W') : FA W' T a c l := by
  refine ⟨?_, h.cap, h.off⟩
  by_cases hl : l = []
  · subst hl; exact fun e => absurd rfl e
  · exact h.at_.kp hk (h.off hl)
theorem FA.below {W W' : World} {T : Nat → Prop} {a : Option Addr} {c : Nat} {l : List UInt8} (h : FA W T a c l) (hb : Below W.heap.size W W') : FA W' T a c l := ⟨h.at_.below hb, h.cap, h.off⟩
theorem FA.turn {W : World} {T T' : Nat → Prop} {a : Option Addr} {c : Nat} {l : List UInt8} (h : FA W T a c l) (ht : ∀ k, T' k → T k ∨ W.heap.size ≤ k) : FA W T' a c l := by
  refine ⟨h.at_, h.cap, fun hl ad e hT => ?_⟩
  obtain ⟨b, o, e2, hc⟩ := h.at_ hl
  rw [e] at e2
  cases e2
  have h0 := World.block_lt_of_cell? _ _ (hc 0 (by cases l with | nil => exact absurd rfl hl | cons => simp))
  rcases ht _ hT with h1 | h1
  · exact h.off hl _ e h1
  · simp only at h1 h0; omega
theorem FA.nil (W : World) (T : Nat → Prop) (a : Option Addr) (c : Nat) : FA W T a c [] := ⟨fun e => absurd rfl e, Nat.zero_le _, fun e => absurd rfl e⟩
theorem FA.own {W W' : World} {T : Nat → Prop} {a : Option Addr} {n c : Nat} {l : List UInt8} (h : Own W' W.heap.size (.slice a n c) l) (hT : ∀ k, T k → k < W.heap.size) : FA W' T a c l := by
  obtain ⟨a', c', e, hc, hat⟩ := h.form
  simp only [Value.slice.injEq] at e
  obtain ⟨rfl, _, rfl⟩ := e
  refine ⟨hat, hc, fun _ ad ea ht => ?_⟩
  subst ea
  have h1 := (h.lt ad.block rfl).1
  have h2 := hT _ ht
  omega

/-- An unsynced one of the document's disk. -/
structure RIt where
  c : Ch
  a : Option Addr
  cap : Nat
def RIt.cells (i : RIt) : List Value := [.int .i64 (i.c.file : Int), .bool (!i.c.app), .int .i64 (i.c.left : Int), .slice i.a i.c.data.length i.cap]

structure RDx where
  fa : Nat → Option Addr
  fc : Nat → Nat
  oa : Option Addr
  oc : Nat
  its : List RIt

def RDx.fv (x : RDx) (d : Dsk) (i : Nat) : Value := .slice (x.fa i) (d.dur i).length (x.fc i)
def RDx.cells (x : RDx) (d : Dsk) : Array Value := #[x.fv d 0, x.fv d 1, x.fv d 2, .slice x.oa x.its.length x.oc, .bool d.down, .int .i64 d.arm, .int .i64 d.fail, .int .i64 d.fault]

structure RD (W : World) (T : Nat → Prop) (x : RDx) (d : Dsk) : Prop where
  file : ∀ i, i < 3 → FA W T (x.fa i) (x.fc i) (d.dur i)
  ops : x.its.map (·.c) = d.ops
  cat : CAt W x.oa (x.its.flatMap RIt.cells)
  offc : x.its ≠ [] → ∀ ad, x.oa = some ad → ¬ T ad.block
  capc : x.its.length ≤ x.oc
  data : ∀ i ∈ x.its, FA W T i.a i.cap i.c.data

theorem flatR_ne {its : List RIt} (h : its ≠ []) : its.flatMap RIt.cells ≠ [] := by
  cases its with
  | nil => exact absurd rfl h
  | cons i r => simp [RIt.cells]

theorem RD.kp {W W' : World} {T : Nat → Prop} {x : RDx} {d : Dsk} (h : RD W T x d) (hk : Kp T W W') : RD W' T x d := by
  refine ⟨fun i hi => (h.file i hi).kp hk, h.ops, ?_, h.offc, h.capc, fun i hi => (h.data i hi).kp hk⟩
  by_cases hl : x.its = []
  · rw [hl]; exact CAt.nil _ _
  · exact h.cat.kp hk (h.offc hl)
theorem RD.below {W W' : World} {T : Nat → Prop} {x : RDx} {d : Dsk} (h : RD W T x d) (hb : Below W.heap.size W W') : RD W' T x d :=
  ⟨fun i hi => (h.file i hi).below hb, h.ops, h.cat.below hb, h.offc, h.capc, fun i hi => (h.data i hi).below hb⟩
theorem RD.turn {W : World} {T T' : Nat → Prop} {x : RDx} {d : Dsk} (h : RD W T x d) (ht : ∀ k, T' k → T k ∨ W.heap.size ≤ k) : RD W T' x d := by
  refine ⟨fun i hi => (h.file i hi).turn ht, h.ops, h.cat, fun hl ad e hT => ?_, h.capc, fun i hi => (h.data i hi).turn ht⟩
  have h0 := h.cat.lt (flatR_ne hl) ad e
  rcases ht _ hT with h1 | h1
  · exact h.offc hl ad e h1
  · omega

theorem flatR_len (its : List RIt) : (its.flatMap RIt.cells).length = its.length * 4 := by
  induction its with
  | nil => rfl
  | cons f r ih => rw [List.flatMap_cons, List.length_append, ih, List.length_cons]; simp [RIt.cells]; omega

theorem flatR_get : ∀ (its : List RIt) (k j : Nat) (hk : k < its.length) (v : Value), (RIt.cells its[k])[j]? = some v → (its.flatMap RIt.cells)[k * 4 + j]? = some v
  | [], k, _, hk, _, _ => by simp at hk
  | f :: r, k, j, hk, v, h => by
    rw [List.flatMap_cons]
    cases k with
    | zero =>
      have hj : j < (RIt.cells f).length := by
        rcases Nat.lt_or_ge j (RIt.cells f).length with h1 | h1
        · exact h1
        · rw [List.getElem_cons_zero, List.getElem?_eq_none h1] at h; cases h
      rw [List.getElem?_append_left (by simpa using hj)]
      simpa using h
    | succ k =>
      have := flatR_get r k j (by simpa using hk) v (by simpa using h)
      rw [List.getElem?_append_right (by simp [RIt.cells]; omega)]
      have e : (k + 1) * 4 + j - (RIt.cells f).length = k * 4 + j := by simp [RIt.cells]; omega
      rw [e]
      exact this

/-- The cells of one that is unsynced. -/
theorem RD.itCell {W : World} {T : Nat → Prop} {x : RDx} {d : Dsk} (h : RD W T x d) (k : Nat) (hk : k < x.its.length) : ∃ b o, x.oa = some ⟨b, o, none⟩ ∧ ∀ j v, (RIt.cells x.its[k])[j]? = some v → W.cell? ⟨b, o + (k * 4 + j), none⟩ = some v := by
  obtain ⟨b, o, e, hc⟩ := h.cat (flatR_ne (fun e => by rw [e] at hk; simp at hk))
  refine ⟨b, o, e, fun j v hv => ?_⟩
  have hg := flatR_get x.its k j hk v hv
  obtain ⟨hlt, hval⟩ := List.getElem?_eq_some_iff.1 hg
  rw [hc _ hlt, hval]

/-- Three slices of bytes in a block. -/
def SBlk (w : World) (g : Nat) (s : Nat → Value) : Prop := w.heap[g]? = some (.cells #[s 0, s 1, s 2] 37 (0, 0))
def updV (s : Nat → Value) (j : Nat) (v : Value) : Nat → Value := fun k => if k = j then v else s k
section
variable {w : World} {g : Nat} {t : Nat → Value}
theorem SBlk.cell (h : SBlk w g t) (j : Nat) (hj : j < 3) : w.cell? ⟨g, j, none⟩ = some (t j) := by
  unfold SBlk at h
  match j, hj with
  | 0, _ | 1, _ | 2, _ => simp [World.cell?, h]
theorem SBlk.free (h : SBlk w g t) (j : Nat) : w.frozen? ⟨g, j, none⟩ = false := by unfold SBlk at h; simp [World.frozen?, h]
theorem SBlk.lt (h : SBlk w g t) : g < w.heap.size := (Array.getElem?_eq_some_iff.1 h).1
theorem SBlk.below {w' : World} (h : SBlk w g t) (hb : Below w.heap.size w w') : SBlk w' g t := by unfold SBlk; rw [hb.block g h.lt]; exact h
theorem SBlk.set (h : SBlk w g t) (j : Nat) (hj : j < 3) (s : Value) : SBlk (w.setCell ⟨g, j, none⟩ s) g (updV t j s) := by
  unfold SBlk at *; rw [setCell_eq_setRow w g j _ 37 (0, 0) _ h, setRow_heap w g _ _ 37 _ h]
  match j, hj with
  | 0, _ | 1, _ | 2, _ => simp [updV]
theorem SBlk.other (h : SBlk w g t) (g2 k : Nat) (v : Value) (hne : g2 ≠ g) : SBlk (w.setCell ⟨g2, k, none⟩ v) g t := by
  unfold SBlk at *; rw [Below.heap_setCell _ _ _ _ (fun e => hne e.symm)]; exact h
end
theorem info37 : (Try.prog.info? 37).map (·.size) = some 3 := by kernel_rfl
theorem info40 : (Try.prog.info? 40).map (·.size) = some 8 := by kernel_rfl

/-- Files like these. -/
def Fls (W : World) (T : Nat → Prop) (s : Nat → Value) (f : Fs) : Prop := ∀ i, i < 3 → ∃ a c, s i = .slice a (f i).length c ∧ FA W T a c (f i)
theorem Fls.below {W W' : World} {T : Nat → Prop} {s : Nat → Value} {f : Fs} (h : Fls W T s f) (hb : Below W.heap.size W W') : Fls W' T s f := fun i hi => by
  obtain ⟨a, c, e, hf⟩ := h i hi
  exact ⟨a, c, e, hf.below hb⟩

theorem results_sl {fn : Func} {p : Tmp} (h : fn.results = #[.cell p 37]) (tmps : Array Value) (w : World) (g : Nat) (t : Nat → Value)
    (hp : tmps.getD p undef = .pointer (some ⟨g, 0, none⟩)) (hg : SBlk w g t) :
    (results fn tmps).run Try.prog w = .ok (.agg #[t 0, t 1, t 2]) w :=
  results_cell_row h tmps w g 37 _ (0, 0) _ hp hg Try.underlying37 rfl info37
end Go.Proofs.Ytpngnmogjmdmhaa
