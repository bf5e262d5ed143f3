/- The blocks that oneOf makes and sets. -/
import Derived.Test.YtkkdiciadkcmmaaSeveral
namespace Go.Proofs.Ytkkdiciadkcmmaa
open Go.RowKit

/-- A field's block, cell by cell. -/
def RB (w : World) (g : Nat) (c0 c1 c2 c3 c4 c5 : Value) : Prop := w.heap[g]? = some (.cells #[c0, c1, c2, c3, c4, c5] 30 (0, 0))

structure RB6 (w : World) (g : Nat) (c0 c1 c2 c3 c4 c5 : Value) : Prop where
  c0 : w.cell? ⟨g, 0, none⟩ = some c0
  c1 : w.cell? ⟨g, 1, none⟩ = some c1
  c2 : w.cell? ⟨g, 2, none⟩ = some c2
  c3 : w.cell? ⟨g, 3, none⟩ = some c3
  c4 : w.cell? ⟨g, 4, none⟩ = some c4
  c5 : w.cell? ⟨g, 5, none⟩ = some c5

theorem RB.six {w : World} {g : Nat} {c0 c1 c2 c3 c4 c5 : Value} (h : RB w g c0 c1 c2 c3 c4 c5) : RB6 w g c0 c1 c2 c3 c4 c5 := by
  unfold RB at h
  constructor <;> simp [World.cell?, h]
theorem RB.free {w : World} {g : Nat} {c0 c1 c2 c3 c4 c5 : Value} (h : RB w g c0 c1 c2 c3 c4 c5) (j : Nat) : w.frozen? ⟨g, j, none⟩ = false := by unfold RB at h; simp [World.frozen?, h]
theorem RB.kp {S : Nat → Prop} {w w' : World} {g : Nat} {c0 c1 c2 c3 c4 c5 : Value} (h : RB w g c0 c1 c2 c3 c4 c5) (hk : Kp S w w') (hn : ¬ S g) : RB w' g c0 c1 c2 c3 c4 c5 := one_kp h hk hn
theorem RB.below {w w' : World} {g : Nat} {c0 c1 c2 c3 c4 c5 : Value} (h : RB w g c0 c1 c2 c3 c4 c5) (hb : Below w.heap.size w w') : RB w' g c0 c1 c2 c3 c4 c5 := h.kp (S := fun _ => False) (Kp.of_below hb) (fun h => h)
theorem RB.two {w0 w w' : World} {a : Option Addr} {len cap g gb ga gw gn : Nat} {s : St} {c0 c1 c2 c3 c4 c5 : Value} (h : RB w g c0 c1 c2 c3 c4 c5) (ht : Tk w0 w a len cap gb ga gw gn s) (hk : Kp (Two ga gw) w w') : RB w' g c0 c1 c2 c3 c4 c5 := by
  refine h.kp hk ?_
  rintro (e | e)
  · exact block_ne h ht.p (by decide) e
  · exact block_ne h ht.r (by decide) e
theorem RB.set {w : World} {g : Nat} {c0 c1 c2 c3 c4 c5 : Value} (h : RB w g c0 c1 c2 c3 c4 c5) (j : Nat) (u : Value) : (w.setCell ⟨g, j, none⟩ u).heap[g]? = some (.cells (#[c0, c1, c2, c3, c4, c5].setIfInBounds j u) 30 (0, 0)) := by
  unfold RB at h
  rw [setCell_eq_setRow w g j _ 30 (0, 0) _ h, setRow_heap w g _ _ 30 _ h]
theorem RB.set1 {w : World} {g : Nat} {c0 c1 c2 c3 c4 c5 : Value} (h : RB w g c0 c1 c2 c3 c4 c5) (u : Value) : RB (w.setCell ⟨g, 1, none⟩ u) g c0 u c2 c3 c4 c5 := by have := h.set 1 u; simpa [RB] using this
theorem RB.set2 {w : World} {g : Nat} {c0 c1 c2 c3 c4 c5 : Value} (h : RB w g c0 c1 c2 c3 c4 c5) (u : Value) : RB (w.setCell ⟨g, 2, none⟩ u) g c0 c1 u c3 c4 c5 := by have := h.set 2 u; simpa [RB] using this
theorem RB.set3 {w : World} {g : Nat} {c0 c1 c2 c3 c4 c5 : Value} (h : RB w g c0 c1 c2 c3 c4 c5) (u : Value) : RB (w.setCell ⟨g, 3, none⟩ u) g c0 c1 c2 u c4 c5 := by have := h.set 3 u; simpa [RB] using this
theorem RB.set4 {w : World} {g : Nat} {c0 c1 c2 c3 c4 c5 : Value} (h : RB w g c0 c1 c2 c3 c4 c5) (u : Value) : RB (w.setCell ⟨g, 4, none⟩ u) g c0 c1 c2 c3 u c5 := by have := h.set 4 u; simpa [RB] using this
theorem RB.set5 {w : World} {g : Nat} {c0 c1 c2 c3 c4 c5 : Value} (h : RB w g c0 c1 c2 c3 c4 c5) (u : Value) : RB (w.setCell ⟨g, 5, none⟩ u) g c0 c1 c2 c3 c4 u := by have := h.set 5 u; simpa [RB] using this

/-- A field whose lists lie in rows of the call's own. -/
def ItOwn (w : World) (base : Nat) (i : It) : Prop := Nums w base (.slice i.na i.fd.ns.length i.nc) i.fd.ns ∧ Txts w base (.slice i.ta i.fd.texts.length i.tc) i.fd.texts

theorem heap_two (w : World) (o0 o1 : Obj) : ((w.alloc o0).alloc o1).heap[w.heap.size]? = some o0 ∧ ((w.alloc o0).alloc o1).heap[w.heap.size + 1]? = some o1 := by
  have s : ∀ (v : World) (o : Obj), (v.alloc o).heap.size = v.heap.size + 1 := fun v o => by simp
  have old : ∀ (v : World) (o : Obj) (k : Nat) (x : Obj), v.heap[k]? = some x → (v.alloc o).heap[k]? = some x := fun v o k x h => by
    rw [Below.heap_alloc v o k (Array.getElem?_eq_some_iff.1 h).1]; exact h
  have n0 := heap_alloc_new w o0
  have n1 := heap_alloc_new (w.alloc o0) o1
  simp only [s] at n1
  exact ⟨old _ _ _ _ n0, n1⟩

abbrev tkObj (gb ga gw gn : Nat) : Obj := .cells #[.func (.func 49) #[] #[.pointer (some ⟨gb, 0, none⟩), .pointer (some ⟨ga, 0, none⟩), .pointer (some ⟨gn, 0, none⟩)],
  .func (.func 51) #[] #[.pointer (some ⟨gb, 0, none⟩), .pointer (some ⟨ga, 0, none⟩), .pointer (some ⟨gn, 0, none⟩)],
  .func (.func 53) #[] #[.pointer (some ⟨gb, 0, none⟩), .pointer (some ⟨ga, 0, none⟩), .pointer (some ⟨gn, 0, none⟩)],
  .func (.func 55) #[] #[.pointer (some ⟨gb, 0, none⟩), .pointer (some ⟨ga, 0, none⟩), .pointer (some ⟨gn, 0, none⟩)],
  .func (.func 57) #[] #[.pointer (some ⟨gw, 0, none⟩)],
  .func (.func 58) #[] #[.pointer (some ⟨gw, 0, none⟩), .pointer (some ⟨ga, 0, none⟩), .pointer (some ⟨gb, 0, none⟩)]] 59

/-- What lies there behind the first call: the closures at w.heap.size, the answer's block behind it. -/
theorem begin_one {w0 w w1 : World} {a : Option Addr} {len cap gb ga gw gn : Nat} {s : St} {c0 c1 c2 c3 c4 c5 : Value} (h : Tk w0 w a len cap gb ga gw gn s) (hk : Kp (Two ga gw) ((w.alloc (tkObj gb ga gw gn)).alloc (.cells #[c0, c1, c2, c3, c4, c5] 30)) w1) :
    TB w1 w.heap.size gb ga gw gn ∧ RB w1 (w.heap.size + 1) c0 c1 c2 c3 c4 c5 ∧ Kp (Two ga gw) w w1 ∧ w.heap.size + 2 ≤ w1.heap.size := by
  obtain ⟨n0, n1⟩ := heap_two w (tkObj gb ga gw gn) (.cells #[c0, c1, c2, c3, c4, c5] 30)
  have hb : Below w.heap.size w ((w.alloc (tkObj gb ga gw gn)).alloc (.cells #[c0, c1, c2, c3, c4, c5] 30)) := bnext (below_lit w _) (below_lit _ _)
  have ht := h.below hb
  refine ⟨TB.two n0 ht hk, RB.two n1 ht hk, (Kp.of_below hb).trans hk, ?_⟩
  have := hk.size
  have e : ((w.alloc (tkObj gb ga gw gn)).alloc (.cells #[c0, c1, c2, c3, c4, c5] 30)).heap.size = w.heap.size + 1 + 1 := by simp
  omega

/-- A step that turns one block of the call's own, a field's. -/
structure Stand (w0 w wx : World) (a : Option Addr) (len cap gb ga gw gn g3 : Nat) (s : St) (k0 k1 k2 k3 k4 k5 : Value) : Prop where
  tk : Tk w0 wx a len cap gb ga gw gn s
  tb : TB wx w.heap.size gb ga gw gn
  rb : ∃ c0 c1 c2 c3 c4 c5, RB wx (w.heap.size + 1) c0 c1 c2 c3 c4 c5
  fb : RB wx g3 k0 k1 k2 k3 k4 k5
  kp : Kp (Two ga gw) w wx
  lt : w.heap.size + 1 < g3
  low : w0.heap.size ≤ w.heap.size

theorem Stand.set {w0 w wx : World} {a : Option Addr} {len cap gb ga gw gn g3 j : Nat} {s : St} {k0 k1 k2 k3 k4 k5 u l0 l1 l2 l3 l4 l5 : Value} (h : Stand w0 w wx a len cap gb ga gw gn g3 s k0 k1 k2 k3 k4 k5) (hr : RB (wx.setCell ⟨g3, j, none⟩ u) g3 l0 l1 l2 l3 l4 l5) : Stand w0 w (wx.setCell ⟨g3, j, none⟩ u) a len cap gb ga gw gn g3 s l0 l1 l2 l3 l4 l5 := by
  have hk : Kp (fun k => k = g3) wx (wx.setCell ⟨g3, j, none⟩ u) := Kp.setCell (S := fun k => k = g3) (p := ⟨g3, j, none⟩) (Kp.refl _ _) rfl _
  have hlt := h.lt
  obtain ⟨c0, c1, c2, c3, c4, c5, hrb⟩ := h.rb
  have hsz := h.kp.size
  refine ⟨h.tk.kp hk (fun e => block_ne h.tk.b h.fb (by decide) e) (fun e => block_ne h.tk.p h.fb (by decide) e) (fun e => block_ne h.tk.r h.fb (by decide) e) (fun e => block_ne h.tk.n h.fb (by decide) e) ?_, h.tb.kp hk (fun e => by omega), ⟨c0, c1, c2, c3, c4, c5, hrb.kp hk (fun e => by omega)⟩, hr, h.kp.next hk (fun i hi e => by omega), hlt, h.low⟩
  rintro k rfl
  have := h.low
  omega

/-- A call of the closures. -/
theorem Stand.call {w0 w wx wy : World} {a : Option Addr} {len cap gb ga gw gn g3 : Nat} {s s' : St} {k0 k1 k2 k3 k4 k5 : Value} (h : Stand w0 w wx a len cap gb ga gw gn g3 s k0 k1 k2 k3 k4 k5) (ht : Tk w0 wy a len cap gb ga gw gn s') (hk : Kp (Two ga gw) wx wy) : Stand w0 w wy a len cap gb ga gw gn g3 s' k0 k1 k2 k3 k4 k5 := by
  obtain ⟨c0, c1, c2, c3, c4, c5, hrb⟩ := h.rb
  exact ⟨ht, h.tb.two h.tk hk, ⟨c0, c1, c2, c3, c4, c5, hrb.two h.tk hk⟩, h.fb.two h.tk hk, h.kp.trans hk, h.lt, h.low⟩

theorem RB.set0 {w : World} {g : Nat} {c0 c1 c2 c3 c4 c5 : Value} (h : RB w g c0 c1 c2 c3 c4 c5) (u : Value) : RB (w.setCell ⟨g, 0, none⟩ u) g u c1 c2 c3 c4 c5 := by have := h.set 0 u; simpa [RB] using this

/-- All six cells are set. -/
abbrev sixSet (w : World) (g : Nat) (k0 k1 k2 k3 k4 k5 : Value) : World := (((((w.setCell ⟨g, 0, none⟩ k0).setCell ⟨g, 1, none⟩ k1).setCell ⟨g, 2, none⟩ k2).setCell ⟨g, 3, none⟩ k3).setCell ⟨g, 4, none⟩ k4).setCell ⟨g, 5, none⟩ k5

theorem RB.all {w : World} {g : Nat} {c0 c1 c2 c3 c4 c5 : Value} (h : RB w g c0 c1 c2 c3 c4 c5) (k0 k1 k2 k3 k4 k5 : Value) : RB (sixSet w g k0 k1 k2 k3 k4 k5) g k0 k1 k2 k3 k4 k5 := (((((h.set0 k0).set1 k1).set2 k2).set3 k3).set4 k4).set5 k5

theorem six_kp (w : World) (g : Nat) (k0 k1 k2 k3 k4 k5 : Value) : Kp (fun k => k = g) w (sixSet w g k0 k1 k2 k3 k4 k5) := by
  have st : ∀ (v : World) (j : Nat) (u : Value), Kp (fun k => k = g) v (v.setCell ⟨g, j, none⟩ u) := fun v j u => Kp.setCell (S := fun k => k = g) (p := ⟨g, j, none⟩) (Kp.refl _ _) rfl _
  exact (((((st w 0 k0).trans (st _ 1 k1)).trans (st _ 2 k2)).trans (st _ 3 k3)).trans (st _ 4 k4)).trans (st _ 5 k5)

/-- The answer's block is set. -/
theorem Stand.fin {w0 w wx : World} {a : Option Addr} {len cap gb ga gw gn g3 : Nat} {s : St} {k0 k1 k2 k3 k4 k5 : Value} (h : Stand w0 w wx a len cap gb ga gw gn g3 s k0 k1 k2 k3 k4 k5) (j0 j1 j2 j3 j4 j5 : Value) :
    RB (sixSet wx (w.heap.size + 1) j0 j1 j2 j3 j4 j5) (w.heap.size + 1) j0 j1 j2 j3 j4 j5 ∧ Tk w0 (sixSet wx (w.heap.size + 1) j0 j1 j2 j3 j4 j5) a len cap gb ga gw gn s ∧ Kp (Two ga gw) w (sixSet wx (w.heap.size + 1) j0 j1 j2 j3 j4 j5) := by
  obtain ⟨c0, c1, c2, c3, c4, c5, hrb⟩ := h.rb
  have hk := six_kp wx (w.heap.size + 1) j0 j1 j2 j3 j4 j5
  have hlow := h.low
  refine ⟨hrb.all _ _ _ _ _ _, h.tk.kp hk (fun e => block_ne h.tk.b hrb (by decide) e) (fun e => block_ne h.tk.p hrb (by decide) e) (fun e => block_ne h.tk.r hrb (by decide) e) (fun e => block_ne h.tk.n hrb (by decide) e) (fun k e => by omega), h.kp.next hk (fun i hi e => by omega)⟩

theorem Stand.keeps {w0 w wx : World} {a : Option Addr} {len cap gb ga gw gn g3 base e size n : Nat} {s : St} {k0 k1 k2 k3 k4 k5 v : Value} {xs : List Value} (h : Stand w0 w wx a len cap gb ga gw gn g3 s k0 k1 k2 k3 k4 k5) (ho : wx.ownsRow base e size v n xs) (hne : e ≠ 30) (j0 j1 j2 j3 j4 j5 : Value) : (sixSet wx (w.heap.size + 1) j0 j1 j2 j3 j4 j5).ownsRow base e size v n xs := by
  obtain ⟨c0, c1, c2, c3, c4, c5, hrb⟩ := h.rb
  exact owns_kp ho (six_kp wx (w.heap.size + 1) j0 j1 j2 j3 j4 j5) (fun k hk e' => owns_block_ne ho hrb hne (by rw [hk, e']))

theorem Stand.below {w0 w wx wy : World} {a : Option Addr} {len cap gb ga gw gn g3 : Nat} {s : St} {k0 k1 k2 k3 k4 k5 : Value} (h : Stand w0 w wx a len cap gb ga gw gn g3 s k0 k1 k2 k3 k4 k5) (hb : Below wx.heap.size wx wy) : Stand w0 w wy a len cap gb ga gw gn g3 s k0 k1 k2 k3 k4 k5 := by
  obtain ⟨c0, c1, c2, c3, c4, c5, hrb⟩ := h.rb
  exact ⟨h.tk.below hb, h.tb.below hb, ⟨c0, c1, c2, c3, c4, c5, hrb.below hb⟩, h.fb.below hb, h.kp.then hb, h.lt, h.low⟩

theorem val_eq (A C : Nat) (hA : A < 256) (hC : C < 256) (n : Int) (t : ByteArray) (ns : List Int) (ts : List ByteArray) (na ta : Option Addr) (nc tc : Nat) : It.val ⟨⟨UInt8.ofNat A, UInt8.ofNat C, n, t, ns, ts⟩, na, nc, ta, tc⟩ = .agg #[.int .u8 (A : Int), .int .u8 (C : Int), .int .i64 n, .string t, .slice na ns.length nc, .slice ta ts.length tc] := by
  unfold It.val
  simp only [of_nat_toNat A hA, of_nat_toNat C hC]

theorem tkOne_eq (l : List UInt8) (s : St) (A C : Nat × St) (hA : A = tkN l 1 s) (hC : C = tkN l 1 A.2) : tkOne l s =
  if C.1 = 1 then (⟨UInt8.ofNat A.1, UInt8.ofNat C.1, (tkI l C.2).1, ByteArray.empty, [], []⟩, (tkI l C.2).2)
  else if C.1 = 2 then (⟨UInt8.ofNat A.1, UInt8.ofNat C.1, 0, (tkT l C.2).1, [], []⟩, (tkT l C.2).2)
  else if C.1 = 3 then (⟨UInt8.ofNat A.1, UInt8.ofNat C.1, 0, ByteArray.empty, (many (tkI l) (tkN l 2 C.2).1 (tkN l 2 C.2).2).1, []⟩, (many (tkI l) (tkN l 2 C.2).1 (tkN l 2 C.2).2).2)
  else if C.1 = 4 then (⟨UInt8.ofNat A.1, UInt8.ofNat C.1, 0, ByteArray.empty, [], (many (tkT l) (tkN l 2 C.2).1 (tkN l 2 C.2).2).1⟩, (many (tkT l) (tkN l 2 C.2).1 (tkN l 2 C.2).2).2)
  else (⟨UInt8.ofNat A.1, UInt8.ofNat C.1, 0, ByteArray.empty, [], []⟩, C.2) := by subst hA; subst hC; rfl

end Go.Proofs.Ytkkdiciadkcmmaa
