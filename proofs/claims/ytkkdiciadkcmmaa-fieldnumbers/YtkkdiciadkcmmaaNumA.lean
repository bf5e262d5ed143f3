/- FieldNumbers: the fixed fields, in memory of the call's own. -/
import Derived.Test.YtkkdiciadkcmmaaDraw
import Derived.Test.YtkkdiciadkcmmaaGet
namespace Go.Proofs.Ytkkdiciadkcmmaa
open Go.RowKit

/-- A field as a value. -/
def IsIt (f : Fd) (v : Value) (w : World) : Prop := ∃ it : It, v = it.val ∧ it.fd = f ∧ ItAt w it
/-- Fields in a row of their own. -/
def IsFs (fs : List Fd) (v : Value) (w : World) : Prop := ∃ (g : Nat) (its : List It), v = .slice (some ⟨g, 0, none⟩) its.length its.length ∧ fds its = fs ∧ FAt w (some ⟨g, 0, none⟩) its
def IsNs (ns : List Int) (v : Value) (w : World) : Prop := ∃ g : Nat, v = .slice (some ⟨g, 0, none⟩) ns.length ns.length ∧ NAt w (some ⟨g, 0, none⟩) ns
def IsTs (ts : List ByteArray) (v : Value) (w : World) : Prop := ∃ g : Nat, v = .slice (some ⟨g, 0, none⟩) ts.length ts.length ∧ TAt w (some ⟨g, 0, none⟩) ts
def IsBs (l : List UInt8) (v : Value) (w : World) : Prop := ∃ g : Nat, v = .slice (some ⟨g, 0, none⟩) l.length l.length ∧ At w (some ⟨g, 0, none⟩) l

theorem IsIt.on {f : Fd} {v : Value} {w w' : World} (h : IsIt f v w) (hb : Below w.heap.size w w') : IsIt f v w' := by
  obtain ⟨it, h1, h2, h3⟩ := h; exact ⟨it, h1, h2, h3.below hb⟩
theorem IsFs.on {f : List Fd} {v : Value} {w w' : World} (h : IsFs f v w) (hb : Below w.heap.size w w') : IsFs f v w' := by
  obtain ⟨g, its, h1, h2, h3⟩ := h; exact ⟨g, its, h1, h2, h3.below hb⟩
theorem IsNs.on {f : List Int} {v : Value} {w w' : World} (h : IsNs f v w) (hb : Below w.heap.size w w') : IsNs f v w' := by
  obtain ⟨g, h1, h3⟩ := h; exact ⟨g, h1, CAt.below h3 hb⟩
theorem IsTs.on {f : List ByteArray} {v : Value} {w w' : World} (h : IsTs f v w) (hb : Below w.heap.size w w') : IsTs f v w' := by
  obtain ⟨g, h1, h3⟩ := h; exact ⟨g, h1, CAt.below h3 hb⟩
theorem IsBs.on {f : List UInt8} {v : Value} {w w' : World} (h : IsBs f v w) (hb : Below w.heap.size w w') : IsBs f v w' := by
  obtain ⟨g, h1, h3⟩ := h; exact ⟨g, h1, h3.below hb⟩

theorem slot {a : Act} {s : Nat} {v : Value} (h : a.tmps.getD s undef = v) : a.tmps[s]?.getD undef = v := by rw [← Array.getD_eq_getD_getElem?]; exact h

theorem it_plain {w : World} (t k : UInt8) (n : Int) (s : ByteArray) (hn : In64 n) : ItAt w ⟨⟨t, k, n, s, [], []⟩, none, 0, none, 0⟩ := ⟨CAt.nil _ _, CAt.nil _ _, ⟨hn, by simp⟩⟩
theorem in0 : In64 0 := by unfold In64; omega

theorem st_A (t k : UInt8) {ops : Array Oper} {Q : Exit → Act → World → Prop} {a : Act} {w : World} {K : Act → World → Prop} {d ty : Nat} {pos : String} {af : Array Edge} {T U : Int} (hT : T = (t.toNat : Int)) (hU : U = (k.toNat : Int))
    (h : ∀ v, IsIt ⟨t, k, 0, ByteArray.empty, [], []⟩ v w → K (a.put (some d) v) w) : if Region.wanted ⟨some d, Op.build 30 #[(0, .const (.int .u8 T)), (1, .const (.int .u8 U))], ty, pos, af, none⟩ (yielded ops a.tmps) = true then Oper.wp Try.prog ⟨some d, Op.build 30 #[(0, .const (.int .u8 T)), (1, .const (.int .u8 U))], ty, pos, af, none⟩ a w K Q else K (a.put (some d) undef) w := by
  subst hT hU
  go_simp
  exact h _ ⟨_, rfl, rfl, it_plain t k 0 _ in0⟩
theorem st_B (t k : UInt8) (n : Int) {ops : Array Oper} {Q : Exit → Act → World → Prop} {a : Act} {w : World} {K : Act → World → Prop} {d ty : Nat} {pos : String} {af : Array Edge} {T U : Int} (hT : T = (t.toNat : Int)) (hU : U = (k.toNat : Int)) (hn : In64 n)
    (h : ∀ v, IsIt ⟨t, k, n, ByteArray.empty, [], []⟩ v w → K (a.put (some d) v) w) : if Region.wanted ⟨some d, Op.build 30 #[(0, .const (.int .u8 T)), (1, .const (.int .u8 U)), (2, .const (.int .i64 n))], ty, pos, af, none⟩ (yielded ops a.tmps) = true then Oper.wp Try.prog ⟨some d, Op.build 30 #[(0, .const (.int .u8 T)), (1, .const (.int .u8 U)), (2, .const (.int .i64 n))], ty, pos, af, none⟩ a w K Q else K (a.put (some d) undef) w := by
  subst hT hU
  go_simp
  exact h _ ⟨_, rfl, rfl, it_plain t k n _ hn⟩
theorem st_C (t k : UInt8) (n : Int) (s : ByteArray) {ops : Array Oper} {Q : Exit → Act → World → Prop} {a : Act} {w : World} {K : Act → World → Prop} {d ty : Nat} {pos : String} {af : Array Edge} {T U : Int} (hT : T = (t.toNat : Int)) (hU : U = (k.toNat : Int)) (hn : In64 n)
    (h : ∀ v, IsIt ⟨t, k, n, s, [], []⟩ v w → K (a.put (some d) v) w) : if Region.wanted ⟨some d, Op.build 30 #[(0, .const (.int .u8 T)), (1, .const (.int .u8 U)), (2, .const (.int .i64 n)), (3, .const (.string s))], ty, pos, af, none⟩ (yielded ops a.tmps) = true then Oper.wp Try.prog ⟨some d, Op.build 30 #[(0, .const (.int .u8 T)), (1, .const (.int .u8 U)), (2, .const (.int .i64 n)), (3, .const (.string s))], ty, pos, af, none⟩ a w K Q else K (a.put (some d) undef) w := by
  subst hT hU
  go_simp
  exact h _ ⟨_, rfl, rfl, it_plain t k n _ hn⟩
theorem st_D (t k : UInt8) (ns : List Int) {ops : Array Oper} {Q : Exit → Act → World → Prop} {a : Act} {w : World} {K : Act → World → Prop} {d ty : Nat} {pos : String} {af : Array Edge} {T U : Int} {s : Nat} (hT : T = (t.toNat : Int)) (hU : U = (k.toNat : Int)) (h0 : IsNs ns (a.tmps.getD s undef) w) (hn : ∀ n ∈ ns, In64 n)
    (h : ∀ v, IsIt ⟨t, k, 0, ByteArray.empty, ns, []⟩ v w → K (a.put (some d) v) w) : if Region.wanted ⟨some d, Op.build 30 #[(0, .const (.int .u8 T)), (1, .const (.int .u8 U)), (4, .tmp s)], ty, pos, af, none⟩ (yielded ops a.tmps) = true then Oper.wp Try.prog ⟨some d, Op.build 30 #[(0, .const (.int .u8 T)), (1, .const (.int .u8 U)), (4, .tmp s)], ty, pos, af, none⟩ a w K Q else K (a.put (some d) undef) w := by
  subst hT hU
  obtain ⟨g, hv, hat⟩ := h0
  have hv' := slot hv
  clear hv
  go_simp
  exact h _ ⟨⟨⟨t, k, 0, ByteArray.empty, ns, []⟩, some ⟨g, 0, none⟩, ns.length, none, 0⟩, rfl, rfl, ⟨hat, CAt.nil _ _, ⟨in0, hn⟩⟩⟩
theorem st_E (t k : UInt8) (ts : List ByteArray) {ops : Array Oper} {Q : Exit → Act → World → Prop} {a : Act} {w : World} {K : Act → World → Prop} {d ty : Nat} {pos : String} {af : Array Edge} {T U : Int} {s : Nat} (hT : T = (t.toNat : Int)) (hU : U = (k.toNat : Int)) (h0 : IsTs ts (a.tmps.getD s undef) w)
    (h : ∀ v, IsIt ⟨t, k, 0, ByteArray.empty, [], ts⟩ v w → K (a.put (some d) v) w) : if Region.wanted ⟨some d, Op.build 30 #[(0, .const (.int .u8 T)), (1, .const (.int .u8 U)), (5, .tmp s)], ty, pos, af, none⟩ (yielded ops a.tmps) = true then Oper.wp Try.prog ⟨some d, Op.build 30 #[(0, .const (.int .u8 T)), (1, .const (.int .u8 U)), (5, .tmp s)], ty, pos, af, none⟩ a w K Q else K (a.put (some d) undef) w := by
  subst hT hU
  obtain ⟨g, hv, hat⟩ := h0
  have hv' := slot hv
  clear hv
  go_simp
  exact h _ ⟨⟨⟨t, k, 0, ByteArray.empty, [], ts⟩, none, 0, some ⟨g, 0, none⟩, ts.length⟩, rfl, rfl, ⟨CAt.nil _ _, hat, ⟨in0, by simp⟩⟩⟩
theorem st_F (t k : UInt8) (ns : List Int) (ts : List ByteArray) {ops : Array Oper} {Q : Exit → Act → World → Prop} {a : Act} {w : World} {K : Act → World → Prop} {d ty : Nat} {pos : String} {af : Array Edge} {T U : Int} {s r : Nat} (hT : T = (t.toNat : Int)) (hU : U = (k.toNat : Int)) (h0 : IsNs ns (a.tmps.getD s undef) w) (h1 : IsTs ts (a.tmps.getD r undef) w) (hn : ∀ n ∈ ns, In64 n)
    (h : ∀ v, IsIt ⟨t, k, 0, ByteArray.empty, ns, ts⟩ v w → K (a.put (some d) v) w) : if Region.wanted ⟨some d, Op.build 30 #[(0, .const (.int .u8 T)), (1, .const (.int .u8 U)), (4, .tmp s), (5, .tmp r)], ty, pos, af, none⟩ (yielded ops a.tmps) = true then Oper.wp Try.prog ⟨some d, Op.build 30 #[(0, .const (.int .u8 T)), (1, .const (.int .u8 U)), (4, .tmp s), (5, .tmp r)], ty, pos, af, none⟩ a w K Q else K (a.put (some d) undef) w := by
  subst hT hU
  obtain ⟨g, hv, hat⟩ := h0
  obtain ⟨g1, hv1, hat1⟩ := h1
  have hv' := slot hv
  have hv1' := slot hv1
  clear hv hv1
  go_simp
  exact h _ ⟨⟨⟨t, k, 0, ByteArray.empty, ns, ts⟩, some ⟨g, 0, none⟩, ns.length, some ⟨g1, 0, none⟩, ts.length⟩, rfl, rfl, ⟨hat, hat1, ⟨in0, hn⟩⟩⟩
theorem st_G (t k : UInt8) (x : ByteArray) {ops : Array Oper} {Q : Exit → Act → World → Prop} {a : Act} {w : World} {K : Act → World → Prop} {d ty : Nat} {pos : String} {af : Array Edge} {T U : Int} {s : Nat} (hT : T = (t.toNat : Int)) (hU : U = (k.toNat : Int)) (h0 : a.tmps.getD s undef = .string x)
    (h : ∀ v, IsIt ⟨t, k, 0, x, [], []⟩ v w → K (a.put (some d) v) w) : if Region.wanted ⟨some d, Op.build 30 #[(0, .const (.int .u8 T)), (1, .const (.int .u8 U)), (3, .tmp s)], ty, pos, af, none⟩ (yielded ops a.tmps) = true then Oper.wp Try.prog ⟨some d, Op.build 30 #[(0, .const (.int .u8 T)), (1, .const (.int .u8 U)), (3, .tmp s)], ty, pos, af, none⟩ a w K Q else K (a.put (some d) undef) w := by
  subst hT hU
  have hv' := slot h0
  clear h0
  go_simp
  exact h _ ⟨_, rfl, rfl, it_plain t k 0 _ in0⟩
theorem st_fs1 (f : Fd) {ops : Array Oper} {Q : Exit → Act → World → Prop} {a : Act} {w : World} {K : Act → World → Prop} {d ty : Nat} {pos : String} {af : Array Edge} {s : Nat} (h0 : IsIt f (a.tmps.getD s undef) w)
    (h : ∀ v w', IsFs [f] v w' → Below w.heap.size w w' → K (a.put (some d) v) w') : if Region.wanted ⟨some d, Op.buildSlice 31 1 #[(0, .tmp s)], ty, pos, af, none⟩ (yielded ops a.tmps) = true then Oper.wp Try.prog ⟨some d, Op.buildSlice 31 1 #[(0, .tmp s)], ty, pos, af, none⟩ a w K Q else K (a.put (some d) undef) w := by
  obtain ⟨it, hv, rfl, hat⟩ := h0
  have hv' := slot hv
  clear hv
  unfold It.val at hv'
  go_simp
  have hb := below_lit w (.cells #[.int .u8 (it.fd.tag.toNat : Int), .int .u8 (it.fd.kind.toNat : Int), .int .i64 it.fd.n, .string it.fd.text, .slice it.na it.fd.ns.length it.nc, .slice it.ta it.fd.texts.length it.tc] 30)
  exact h _ _ ⟨w.heap.size, [it], rfl, rfl, ⟨cat_lit w 30 ([it].flatMap It.cells) _ (by simp [It.cells]), fun i hi => by rw [List.mem_singleton.1 hi]; exact hat.below hb⟩⟩ hb
theorem st_fs2 (f f2 : Fd) {ops : Array Oper} {Q : Exit → Act → World → Prop} {a : Act} {w : World} {K : Act → World → Prop} {d ty : Nat} {pos : String} {af : Array Edge} {s r : Nat} (h0 : IsIt f (a.tmps.getD s undef) w) (h1 : IsIt f2 (a.tmps.getD r undef) w)
    (h : ∀ v w', IsFs [f, f2] v w' → Below w.heap.size w w' → K (a.put (some d) v) w') : if Region.wanted ⟨some d, Op.buildSlice 31 2 #[(0, .tmp s), (1, .tmp r)], ty, pos, af, none⟩ (yielded ops a.tmps) = true then Oper.wp Try.prog ⟨some d, Op.buildSlice 31 2 #[(0, .tmp s), (1, .tmp r)], ty, pos, af, none⟩ a w K Q else K (a.put (some d) undef) w := by
  obtain ⟨it, hv, rfl, hat⟩ := h0
  obtain ⟨it2, hv2, rfl, hat2⟩ := h1
  have hv' := slot hv
  have hv2' := slot hv2
  clear hv hv2
  unfold It.val at hv' hv2'
  go_simp
  have hb := below_lit w (.cells #[.int .u8 (it.fd.tag.toNat : Int), .int .u8 (it.fd.kind.toNat : Int), .int .i64 it.fd.n, .string it.fd.text, .slice it.na it.fd.ns.length it.nc, .slice it.ta it.fd.texts.length it.tc, .int .u8 (it2.fd.tag.toNat : Int), .int .u8 (it2.fd.kind.toNat : Int), .int .i64 it2.fd.n, .string it2.fd.text, .slice it2.na it2.fd.ns.length it2.nc, .slice it2.ta it2.fd.texts.length it2.tc] 30)
  refine h _ _ ⟨w.heap.size, [it, it2], rfl, rfl, ⟨cat_lit w 30 ([it, it2].flatMap It.cells) _ (by simp [It.cells]), fun i hi => ?_⟩⟩ hb
  simp at hi
  rcases hi with rfl | rfl
  · exact hat.below hb
  · exact hat2.below hb
theorem st_ns1 (n : Int) {ops : Array Oper} {Q : Exit → Act → World → Prop} {a : Act} {w : World} {K : Act → World → Prop} {d ty : Nat} {pos : String} {af : Array Edge} 
    (h : ∀ v w', IsNs [n] v w' → Below w.heap.size w w' → K (a.put (some d) v) w') : if Region.wanted ⟨some d, Op.buildSlice 27 1 #[(0, .const (.int .i64 n))], ty, pos, af, none⟩ (yielded ops a.tmps) = true then Oper.wp Try.prog ⟨some d, Op.buildSlice 27 1 #[(0, .const (.int .i64 n))], ty, pos, af, none⟩ a w K Q else K (a.put (some d) undef) w := by
  go_simp
  exact h _ _ ⟨w.heap.size, rfl, cat_lit w 2 (nvals [n]) _ rfl⟩ (below_lit w _)
theorem st_ts1 (s : ByteArray) {ops : Array Oper} {Q : Exit → Act → World → Prop} {a : Act} {w : World} {K : Act → World → Prop} {d ty : Nat} {pos : String} {af : Array Edge} 
    (h : ∀ v w', IsTs [s] v w' → Below w.heap.size w w' → K (a.put (some d) v) w') : if Region.wanted ⟨some d, Op.buildSlice 28 1 #[(0, .const (.string s))], ty, pos, af, none⟩ (yielded ops a.tmps) = true then Oper.wp Try.prog ⟨some d, Op.buildSlice 28 1 #[(0, .const (.string s))], ty, pos, af, none⟩ a w K Q else K (a.put (some d) undef) w := by
  go_simp
  exact h _ _ ⟨w.heap.size, rfl, cat_lit w 9 (tvals [s]) _ rfl⟩ (below_lit w _)
theorem st_ts2 (x : ByteArray) {ops : Array Oper} {Q : Exit → Act → World → Prop} {a : Act} {w : World} {K : Act → World → Prop} {d ty : Nat} {pos : String} {af : Array Edge} {s : Nat} (h0 : a.tmps.getD s undef = .string x)
    (h : ∀ v w', IsTs [x] v w' → Below w.heap.size w w' → K (a.put (some d) v) w') : if Region.wanted ⟨some d, Op.buildSlice 28 1 #[(0, .tmp s)], ty, pos, af, none⟩ (yielded ops a.tmps) = true then Oper.wp Try.prog ⟨some d, Op.buildSlice 28 1 #[(0, .tmp s)], ty, pos, af, none⟩ a w K Q else K (a.put (some d) undef) w := by
  have hv' := slot h0
  clear h0
  go_simp
  exact h _ _ ⟨w.heap.size, rfl, cat_lit w 9 (tvals [x]) _ rfl⟩ (below_lit w _)
theorem st_conv (l : List UInt8) {ops : Array Oper} {Q : Exit → Act → World → Prop} {a : Act} {w : World} {K : Act → World → Prop} {d ty : Nat} {pos : String} {af : Array Edge} {s : Nat} (h0 : IsBs l (a.tmps.getD s undef) w)
    (h : ∀ v, v = .string ⟨l.toArray⟩ → K (a.put (some d) v) w) : if Region.wanted ⟨some d, Op.convert 22 9 (.tmp s), ty, pos, af, none⟩ (yielded ops a.tmps) = true then Oper.wp Try.prog ⟨some d, Op.convert 22 9 (.tmp s), ty, pos, af, none⟩ a w K Q else K (a.put (some d) undef) w := by
  obtain ⟨g, hv, hat⟩ := h0
  have hv' := slot hv
  clear hv
  have hc := conv_run w (some ⟨g, 0, none⟩) l l.length l.length rfl hat
  go_simp
  exact h _ rfl
theorem st_move (v0 : Value) {ops : Array Oper} {Q : Exit → Act → World → Prop} {a : Act} {w : World} {K : Act → World → Prop} {d ty : Nat} {pos : String} {af : Array Edge} {s : Nat} (h0 : a.tmps.getD s undef = v0)
    (h : K (a.put (some d) v0) w) : if Region.wanted ⟨some d, Op.move (.tmp s), ty, pos, af, none⟩ (yielded ops a.tmps) = true then Oper.wp Try.prog ⟨some d, Op.move (.tmp s), ty, pos, af, none⟩ a w K Q else K (a.put (some d) undef) w := by
  have hv' := slot h0
  clear h0
  go_simp
  exact h
theorem st_movec (v0 : Value) {ops : Array Oper} {Q : Exit → Act → World → Prop} {a : Act} {w : World} {K : Act → World → Prop} {d ty : Nat} {pos : String} {af : Array Edge} 
    (h : K (a.put (some d) v0) w) : if Region.wanted ⟨some d, Op.move (.const v0), ty, pos, af, none⟩ (yielded ops a.tmps) = true then Oper.wp Try.prog ⟨some d, Op.move (.const v0), ty, pos, af, none⟩ a w K Q else K (a.put (some d) undef) w := by
  go_simp
  exact h
/-- make of so many elements, as a step. -/
theorem st_make {z : Value} (t e n size bytes : Nat) (i0 : TypeInfo) (h1 : Try.prog.underlying t = some (.slice e)) (h2 : Try.prog.info? e = some i0) (h3 : i0.zero = some z) (h4 : i0.size = size) (h5 : i0.bytes = bytes) {ops : Array Oper} {Q : Exit → Act → World → Prop} {a : Act} {w : World} {K : Act → World → Prop} {d ty : Nat} {pos : String} {af : Array Edge} {L : Int} (hL : L = (n : Int)) (hb : bytes * n ≤ 281474976710656) (hn : n ≤ maxLen)
    (h : ∀ w', w'.ownsRow w.heap.size e size (.slice (some ⟨w.heap.size, 0, none⟩) n n) n (madeCells z.cells (n * size)).toList → Below w.heap.size w w' → K (a.put (some d) (.slice (some ⟨w.heap.size, 0, none⟩) n n)) w') :
    if Region.wanted ⟨some d, Op.makeSlice t (.const (.int .i64 L)) (.const (.int .i64 L)), ty, pos, af, none⟩ (yielded ops a.tmps) = true then Oper.wp Try.prog ⟨some d, Op.makeSlice t (.const (.int .i64 L)) (.const (.int .i64 L)), ty, pos, af, none⟩ a w K Q else K (a.put (some d) undef) w := by
  subst hL
  obtain ⟨w', hrun, r1, r2⟩ := run_make_full (P := Try.prog) w w.heap.size t e i0 z size h1 h2 h3 h4 .i64 .i64 n (by rw [h5]; exact hb) hn (Nat.le_refl _)
  have hw : Region.wanted ⟨some d, Op.makeSlice t (.const (.int .i64 (n : Int))) (.const (.int .i64 (n : Int))), ty, pos, af, none⟩ (yielded ops a.tmps) = true := rfl
  rw [if_pos hw]
  unfold Oper.wp
  simp [execOp, Act.eval, hrun, Result.andThen]
  exact h w' r1 (grown_none r2)

theorem made_list (z : Value) (n : Nat) : (madeCells (Value.cells z) (n * 1)).toList = (madeCells (Value.cells z) n).toList := by rw [Nat.mul_one]

end Go.Proofs.Ytkkdiciadkcmmaa
