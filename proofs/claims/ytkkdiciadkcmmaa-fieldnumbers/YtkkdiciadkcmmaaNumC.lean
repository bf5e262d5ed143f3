/- FieldNumbers: the longest lists and bodies, and bytes that are none. -/
import Derived.Test.YtkkdiciadkcmmaaNumB
import Derived.Test.YtkkdiciadkcmmaaAwake
import Derived.Deep.RegionLawGrows
namespace Go.Proofs.Ytkkdiciadkcmmaa
open Go.RowKit

theorem wpList_zeros (w : World) {ops : Array Oper} {rest : List Oper} {o : Oper} {a : Act} {Q : Exit → Act → World → Prop} (hg : o.guard = none) (s t : Operand) (hop : o.op = Op.makeSlice 22 s t) (N : Int) (n : Nat) (hs : a.eval s = .int .i64 N) (ht : a.eval t = .int .i64 N) (hN : N = (n : Int)) (hn : n ≤ 100000)
    (h : ∀ w', Row w' w.heap.size (List.replicate n 0) → Below w.heap.size w w' → wpList Try.prog ops Q rest (a.put o.dst (.slice (some ⟨w.heap.size, 0, none⟩) n n)) w') : wpList Try.prog ops Q (o :: rest) a w := by
  obtain ⟨i0, hi, hz0, hz1, hz2⟩ := info_parts info5
  refine wpList_make_full w hg s t 22 hop w.heap.size 5 i0 _ 1 Try.underlying22 hi hz0 hz1 .i64 .i64 N N n hs ht hN hN (by rw [hz2]; omega) (by unfold maxLen; omega) (Nat.le_refl _) ?_
  intro w' ho hg'
  exact h w' (row_made ho) (grown_none hg')

/-- The longest lists. -/
def wideF : List Fd := [⟨1, 3, 0, ByteArray.empty, List.replicate 256 0, []⟩, ⟨2, 4, 0, ByteArray.empty, [], List.replicate 256 ByteArray.empty⟩]

theorem good_ns (t : UInt8) (ns : List Int) (h0 : ns ≠ []) (h : ns.length ≤ 256) : Good ⟨t, 3, 0, ByteArray.empty, ns, []⟩ := .inr (.inr (.inl ⟨rfl, rfl, rfl, h0, h, rfl⟩))
theorem good_ts (t : UInt8) (ts : List ByteArray) (h0 : ts ≠ []) (h : ts.length ≤ 256) (hs : ∀ s ∈ ts, s.size ≤ 65535) : Good ⟨t, 4, 0, ByteArray.empty, [], ts⟩ := .inr (.inr (.inr ⟨rfl, rfl, rfl, rfl, h0, h, hs⟩))
theorem good_t (t : UInt8) (x : ByteArray) (h0 : 0 < x.size) (h : x.size ≤ 65535) : Good ⟨t, 2, 0, x, [], []⟩ := .inr (.inl ⟨rfl, rfl, fun e => by dsimp only at e; rw [e] at h0; simp at h0, h, rfl, rfl⟩)

theorem rep_ne {α : Type} (n : Nat) (x : α) (h : 0 < n) : List.replicate n x ≠ [] := fun e => by have := congrArg List.length e; rw [List.length_replicate, List.length_nil] at this; omega

theorem wide_right : Right wideF := ⟨show 2 ≤ 64 by omega, fun i h => by
  have h' : i < 2 := h
  match i, h' with
  | 0, _ => exact ⟨good_ns 1 _ (rep_ne _ _ (by omega)) (by rw [List.length_replicate]; omega), fun h => absurd h (by omega)⟩
  | 1, _ => exact ⟨good_ts 2 _ (rep_ne _ _ (by omega)) (by rw [List.length_replicate]; omega) (fun s hs => by rw [List.eq_of_mem_replicate hs]; simp), fun _ => show (1 : UInt8) < 2 by decide⟩⟩

theorem flat_rep {α β : Type} (n : Nat) (x : α) (f : α → List β) : ((List.replicate n x).flatMap f).length = n * (f x).length := by
  induction n with
  | zero => simp
  | succ n ih => rw [List.replicate_succ, List.flatMap_cons, List.length_append, ih, Nat.succ_mul]; omega

theorem wide_len : (bytesOf wideF).length = 2569 := by
  unfold wideF bytesOf
  simp only [List.length_cons, List.flatMap_cons, List.flatMap_nil, List.length_append, List.length_nil]
  rw [bytes3 _ rfl, bytes4 _ rfl]
  simp only [List.length_append, be_length, List.length_cons, List.length_nil, flat_rep, encN_len, encT_len]
  rfl

/-- One text. -/
def textF (x : ByteArray) : List Fd := [⟨1, 2, 0, x, [], []⟩]
theorem text_right (x : ByteArray) (h0 : 0 < x.size) (h : x.size ≤ 65535) : Right (textF x) := ⟨by simp [textF], fun i hi => by
  have h' : i < 1 := hi
  obtain rfl : i = 0 := by omega
  exact ⟨good_t 1 x h0 h, fun h => absurd h (by omega)⟩⟩
theorem text_len (x : ByteArray) : (bytesOf (textF x)).length = 5 + x.size := by
  unfold textF bytesOf
  simp only [List.length_cons, List.flatMap_cons, List.flatMap_nil, List.length_append, List.length_nil]
  rw [bytes2 _ rfl]
  simp only [List.length_append, be_length, List.length_cons, List.length_nil]
  simp
  omega
theorem text_fits (x : ByteArray) : ∀ f ∈ textF x, Fits f := fun f hf => by
  rw [List.mem_singleton.1 hf]; exact ⟨in0, by simp⟩

theorem many_right (n : Nat) (h : n ≤ 64) : Right (manyF n) := ⟨by simp [manyF]; exact h, fun i hi => by
  have hi' : i < n := by simpa [manyF] using hi
  refine ⟨by simp [manyF, Good], fun hp => ?_⟩
  simp only [manyF, List.getElem_map, List.getElem_range]
  rw [UInt8.lt_iff_toNat_lt, of_nat_toNat _ (by omega), of_nat_toNat _ (by omega)]
  omega⟩
theorem many_blen (n : Nat) : (bytesOf (manyF n)).length = 1 + n * 10 := by
  unfold bytesOf manyF
  rw [List.length_cons]
  induction n with
  | zero => simp
  | succ n ih =>
    rw [List.range_succ, List.map_append, List.flatMap_append, List.length_append]
    simp only [List.map_cons, List.map_nil, List.flatMap_cons, List.flatMap_nil, List.append_nil]
    rw [bytes1 _ rfl]
    simp only [List.length_append, be_length, List.length_cons, List.length_nil]
    omega

/-- Bytes that are no fields'. -/
def bad : Nat → List UInt8
  | 0 => []
  | 1 => [1]
  | 2 => [0, 0]
  | 3 => twoB.take 16
  | 4 => twoB ++ [0]
  | 5 => [1, 1, 1, 0, 0, 0, 0, 0, 0, 0, 0]
  | 6 => [1, 1, 3, 0, 0]
  | _ => [1, 1, 9]

theorem bad_of {l : List UInt8} (h : ¬ ((tkAll l).2.2 = false ∧ (tkAll l).2.1 = l.length ∧ Right (tkAll l).1)) : ∀ fs, Reads l fs → ¬ ∀ f ∈ fs, Fits f := fun fs hr hf => h (by
  have e := reads_tkAll hr hf
  rw [e]
  exact ⟨rfl, rfl, hr.1⟩)

theorem bad_not (k : Nat) : ∀ fs, Reads (bad k) fs → ¬ ∀ f ∈ fs, Fits f := by
  match k with
  | 0 => exact bad_of (fun h => absurd h.1 (by decide))
  | 1 => exact bad_of (fun h => absurd h.1 (by decide))
  | 2 => exact bad_of (fun h => absurd h.2.1 (by decide))
  | 3 => exact bad_of (fun h => absurd h.1 (by decide))
  | 4 => exact bad_of (fun h => absurd h.2.1 (by decide))
  | 5 => exact bad_of (fun h => absurd h.2.2 (by
      have e : (tkAll (bad 5)).1 = [⟨1, 1, 0, ByteArray.empty, [], []⟩] := rfl
      rw [e]; exact not_good (by simp [Good])))
  | 6 => exact bad_of (fun h => absurd h.2.2 (by
      have e : (tkAll (bad 6)).1 = [⟨1, 3, 0, ByteArray.empty, [], []⟩] := rfl
      rw [e]; exact not_good (by simp [Good])))
  | n + 7 => exact bad_of (fun h => absurd h.2.2 (by
      have e : (tkAll (bad (n + 7))).1 = [⟨1, 9, 0, ByteArray.empty, [], []⟩] := rfl
      rw [e]; exact not_good (by simp [Good])))

theorem bad_len (k : Nat) : (bad k).length ≤ 18 := by
  match k with
  | 0 => decide
  | 1 => decide
  | 2 => decide
  | 3 => decide
  | 4 => decide
  | 5 => decide
  | 6 => decide
  | n + 7 => exact (by decide : ([1, 1, 9] : List UInt8).length ≤ 18)

/-- Bytes behind a slice. -/
def IsBl (l : List UInt8) (v : Value) (w : World) : Prop := ∃ (a : Option Addr) (c : Nat), v = .slice a l.length c ∧ l.length ≤ c ∧ At w a l
theorem IsBl.on {f : List UInt8} {v : Value} {w w' : World} (h : IsBl f v w) (hb : Below w.heap.size w w') : IsBl f v w' := by
  obtain ⟨a, c, h1, h2, h3⟩ := h; exact ⟨a, c, h1, h2, h3.below hb⟩
theorem IsBs.bl {f : List UInt8} {v : Value} {w : World} (h : IsBs f v w) : IsBl f v w := by
  obtain ⟨g, h1, h2⟩ := h; exact ⟨_, _, h1, Nat.le_refl _, h2⟩
def IsBB (v : Value) (w : World) : Prop := ∃ (g : Nat) (vs : List Value), v = .slice (some ⟨g, 0, none⟩) 8 8 ∧ vs.length = 8 ∧ CAt w (some ⟨g, 0, none⟩) vs ∧ ∀ k (hk : k < vs.length), IsBl (bad k) vs[k] w
theorem IsBB.on {v : Value} {w w' : World} (h : IsBB v w) (hb : Below w.heap.size w w') : IsBB v w' := by
  obtain ⟨g, vs, h1, h2, h3, h4⟩ := h; exact ⟨g, vs, h1, h2, h3.below hb, fun k hk => (h4 k hk).on hb⟩

/-- An answer of Put without an error. -/
def IsOk (n : Nat) (v : Value) : Prop := ∃ a c, v = .tuple #[.slice a n c, .int .i64 0]

/-- What each operation of region 16 leaves. -/
def pr16 : Nat → Value → World → Prop
  | 0 => IsNs (List.replicate 256 0)
  | 1 => IsIt ⟨1, 3, 0, ByteArray.empty, List.replicate 256 0, []⟩
  | 2 => IsTs (List.replicate 256 ByteArray.empty)
  | 3 => IsIt ⟨2, 4, 0, ByteArray.empty, [], List.replicate 256 ByteArray.empty⟩
  | 4 => IsFs wideF
  | 5 => fun v _ => IsOk 2569 v
  | 6 => fun v _ => IsOk 2569 v
  | 7 => fun _ _ => True
  | 8 => fun v _ => v = .int .i64 0
  | 9 => fun _ _ => True
  | 10 => fun v _ => v = .int .i64 0
  | _ => fun _ _ => True

theorem pr16_on (i : Nat) (v : Value) (w w' : World) (h : pr16 i v w) (hb : Below w.heap.size w w') : pr16 i v w' := by
  match i, h with
  | 0, h => exact IsNs.on h hb
  | 1, h => exact IsIt.on h hb
  | 2, h => exact IsTs.on h hb
  | 3, h => exact IsIt.on h hb
  | 4, h => exact IsFs.on h hb
  | 5, h => exact h
  | 6, h => exact h
  | 7, h => exact h
  | 8, h => exact h
  | 9, h => exact h
  | 10, h => exact h
  | n + 11, _ => trivial

def pr21 : Nat → Value → World → Prop
  | 0 => IsBs (bad 1)
  | 1 => IsBs (bad 2)
  | 2 => IsBs twoB
  | 3 => IsBl (bad 3)
  | 4 => IsBs twoB
  | 5 => IsBs [0]
  | 6 => IsBl (bad 4)
  | 7 => IsBs (bad 5)
  | 8 => IsBs (bad 6)
  | 9 => IsBs (bad 7)
  | 10 => IsBB
  | 11 => fun v _ => v = .int .i64 8
  | 12 => fun v _ => v = .int .i64 0
  | _ => fun _ _ => True

theorem pr21_on (i : Nat) (v : Value) (w w' : World) (h : pr21 i v w) (hb : Below w.heap.size w w') : pr21 i v w' := by
  match i, h with
  | 0, h => exact IsBs.on h hb
  | 1, h => exact IsBs.on h hb
  | 2, h => exact IsBs.on h hb
  | 3, h => exact IsBl.on h hb
  | 4, h => exact IsBs.on h hb
  | 5, h => exact IsBs.on h hb
  | 6, h => exact IsBl.on h hb
  | 7, h => exact IsBs.on h hb
  | 8, h => exact IsBs.on h hb
  | 9, h => exact IsBs.on h hb
  | 10, h => exact IsBB.on h hb
  | 11, h => exact h
  | 12, h => exact h
  | n + 13, _ => trivial

theorem st_put (fs : List Fd) (n : Nat) {ops : Array Oper} {Q : Exit → Act → World → Prop} {a : Act} {w : World} {K : Act → World → Prop} {d ty : Nat} {pos : String} {af : Array Edge} {s : Nat} (h0 : IsFs fs (a.tmps.getD s undef) w) (hr : Right fs) (hn : (bytesOf fs).length = n) (hs : n ≤ 65000)
    (h : ∀ v w', IsOk n v → Below w.heap.size w w' → K (a.put (some d) v) w') : if Region.wanted ⟨some d, Op.call { callee := .value (.func 8), args := #[.tmp s], argTypes := #[31] }, ty, pos, af, none⟩ (yielded ops a.tmps) = true then Oper.wp Try.prog ⟨some d, Op.call { callee := .value (.func 8), args := #[.tmp s], argTypes := #[31] }, ty, pos, af, none⟩ a w K Q else K (a.put (some d) undef) w := by
  obtain ⟨g, its, hv, rfl, hf⟩ := h0
  refine step_call (o := ⟨some d, Op.call { callee := .value (.func 8), args := #[.tmp s], argTypes := #[31] }, ty, pos, af, none⟩) rfl 8 #[.tmp s] #[31] rfl _ Try.func8 rfl rfl #[.slice (some ⟨g, 0, none⟩) its.length its.length] (by simp [Act.eval]; exact slot hv) (put_ok _ _ _ n its w rfl hf hr hn hs) ?_
  rintro e w' ⟨a', c', rfl, _, _, hb⟩
  exact ⟨_, rfl, h _ w' ⟨a', c', rfl⟩ hb⟩

theorem st_two {ops : Array Oper} {Q : Exit → Act → World → Prop} {a : Act} {w : World} {K : Act → World → Prop} {d ty : Nat} {pos : String} {af : Array Edge} 
    (h : ∀ v w', IsBs twoB v w' → Below w.heap.size w w' → K (a.put (some d) v) w') : if Region.wanted ⟨some d, Op.call { callee := .value (.func 12), args := #[], argTypes := #[] }, ty, pos, af, none⟩ (yielded ops a.tmps) = true then Oper.wp Try.prog ⟨some d, Op.call { callee := .value (.func 12), args := #[], argTypes := #[] }, ty, pos, af, none⟩ a w K Q else K (a.put (some d) undef) w := by
  refine step_call (o := ⟨some d, Op.call { callee := .value (.func 12), args := #[], argTypes := #[] }, ty, pos, af, none⟩) rfl 12 #[] #[] rfl _ Try.func12 rfl rfl #[] (by simp) (twob_any w) ?_
  rintro e w' ⟨g, rfl, hr, hb⟩
  exact ⟨_, rfl, h _ w' ⟨g, rfl, hr.at⟩ hb⟩

theorem st_ex0 {ops : Array Oper} {Q : Exit → Act → World → Prop} {a : Act} {w : World} {K : Act → World → Prop} {d ty : Nat} {pos : String} {af : Array Edge} {s n : Nat} (h0 : IsOk n (a.tmps.getD s undef))
    (h : ∀ v, K (a.put (some d) v) w) : if Region.wanted ⟨some d, Op.extract (.tmp s) 0, ty, pos, af, none⟩ (yielded ops a.tmps) = true then Oper.wp Try.prog ⟨some d, Op.extract (.tmp s) 0, ty, pos, af, none⟩ a w K Q else K (a.put (some d) undef) w := by
  obtain ⟨x, c, hv⟩ := h0
  replace hv := slot hv
  go_simp
  exact h _

theorem st_ex1 {ops : Array Oper} {Q : Exit → Act → World → Prop} {a : Act} {w : World} {K : Act → World → Prop} {d ty : Nat} {pos : String} {af : Array Edge} {s n : Nat} (h0 : IsOk n (a.tmps.getD s undef))
    (h : K (a.put (some d) (.int .i64 0)) w) : if Region.wanted ⟨some d, Op.extract (.tmp s) 1, ty, pos, af, none⟩ (yielded ops a.tmps) = true then Oper.wp Try.prog ⟨some d, Op.extract (.tmp s) 1, ty, pos, af, none⟩ a w K Q else K (a.put (some d) undef) w := by
  obtain ⟨x, c, hv⟩ := h0
  replace hv := slot hv
  go_simp
  exact h

theorem st_mv {ops : Array Oper} {Q : Exit → Act → World → Prop} {a : Act} {w : World} {K : Act → World → Prop} {d ty : Nat} {pos : String} {af : Array Edge} {s : Nat}
    (h : K (a.put (some d) (a.tmps.getD s undef)) w) : if Region.wanted ⟨some d, Op.move (.tmp s), ty, pos, af, none⟩ (yielded ops a.tmps) = true then Oper.wp Try.prog ⟨some d, Op.move (.tmp s), ty, pos, af, none⟩ a w K Q else K (a.put (some d) undef) w := by
  have e : a.tmps.getD s undef = a.tmps[s]?.getD undef := Array.getD_eq_getD_getElem?
  rw [e] at h
  go_simp
  exact h

theorem st_as {ops : Array Oper} {Q : Exit → Act → World → Prop} {a : Act} {w : World} {K : Act → World → Prop} {d ty : Nat} {pos : String} {af : Array Edge} {s : Nat}
    (h : K (a.put (some d) (a.tmps.getD s undef)) w) : if Region.wanted ⟨some d, Op.assign (.tmp s), ty, pos, af, none⟩ (yielded ops a.tmps) = true then Oper.wp Try.prog ⟨some d, Op.assign (.tmp s), ty, pos, af, none⟩ a w K Q else K (a.put (some d) undef) w := by
  have e : a.tmps.getD s undef = a.tmps[s]?.getD undef := Array.getD_eq_getD_getElem?
  rw [e] at h
  go_simp
  exact h

theorem st_b1 {ops : Array Oper} {Q : Exit → Act → World → Prop} {a : Act} {w : World} {K : Act → World → Prop} {d ty : Nat} {pos : String} {af : Array Edge} 
    (h : ∀ v w', IsBs (bad 1) v w' → Below w.heap.size w w' → K (a.put (some d) v) w') : if Region.wanted ⟨some d, Op.buildSlice 22 1 #[(0, .const (.int .u8 1))], ty, pos, af, none⟩ (yielded ops a.tmps) = true then Oper.wp Try.prog ⟨some d, Op.buildSlice 22 1 #[(0, .const (.int .u8 1))], ty, pos, af, none⟩ a w K Q else K (a.put (some d) undef) w := by
  go_simp
  exact h _ _ ⟨w.heap.size, rfl, at_lit w (bad 1) #[.int .u8 1] rfl⟩ (below_lit w _)

theorem st_b2 {ops : Array Oper} {Q : Exit → Act → World → Prop} {a : Act} {w : World} {K : Act → World → Prop} {d ty : Nat} {pos : String} {af : Array Edge} 
    (h : ∀ v w', IsBs (bad 2) v w' → Below w.heap.size w w' → K (a.put (some d) v) w') : if Region.wanted ⟨some d, Op.buildSlice 22 2 #[(0, .const (.int .u8 0)), (1, .const (.int .u8 0))], ty, pos, af, none⟩ (yielded ops a.tmps) = true then Oper.wp Try.prog ⟨some d, Op.buildSlice 22 2 #[(0, .const (.int .u8 0)), (1, .const (.int .u8 0))], ty, pos, af, none⟩ a w K Q else K (a.put (some d) undef) w := by
  go_simp
  exact h _ _ ⟨w.heap.size, rfl, at_lit w (bad 2) #[.int .u8 0, .int .u8 0] rfl⟩ (below_lit w _)

theorem st_b0 {ops : Array Oper} {Q : Exit → Act → World → Prop} {a : Act} {w : World} {K : Act → World → Prop} {d ty : Nat} {pos : String} {af : Array Edge} 
    (h : ∀ v w', IsBs ([0]) v w' → Below w.heap.size w w' → K (a.put (some d) v) w') : if Region.wanted ⟨some d, Op.buildSlice 22 1 #[(0, .const (.int .u8 0))], ty, pos, af, none⟩ (yielded ops a.tmps) = true then Oper.wp Try.prog ⟨some d, Op.buildSlice 22 1 #[(0, .const (.int .u8 0))], ty, pos, af, none⟩ a w K Q else K (a.put (some d) undef) w := by
  go_simp
  exact h _ _ ⟨w.heap.size, rfl, at_lit w ([0]) #[.int .u8 0] rfl⟩ (below_lit w _)

theorem st_b5 {ops : Array Oper} {Q : Exit → Act → World → Prop} {a : Act} {w : World} {K : Act → World → Prop} {d ty : Nat} {pos : String} {af : Array Edge} 
    (h : ∀ v w', IsBs (bad 5) v w' → Below w.heap.size w w' → K (a.put (some d) v) w') : if Region.wanted ⟨some d, Op.buildSlice 22 11 #[(0, .const (.int .u8 1)), (1, .const (.int .u8 1)), (2, .const (.int .u8 1)), (3, .const (.int .u8 0)), (4, .const (.int .u8 0)), (5, .const (.int .u8 0)), (6, .const (.int .u8 0)), (7, .const (.int .u8 0)), (8, .const (.int .u8 0)), (9, .const (.int .u8 0)), (10, .const (.int .u8 0))], ty, pos, af, none⟩ (yielded ops a.tmps) = true then Oper.wp Try.prog ⟨some d, Op.buildSlice 22 11 #[(0, .const (.int .u8 1)), (1, .const (.int .u8 1)), (2, .const (.int .u8 1)), (3, .const (.int .u8 0)), (4, .const (.int .u8 0)), (5, .const (.int .u8 0)), (6, .const (.int .u8 0)), (7, .const (.int .u8 0)), (8, .const (.int .u8 0)), (9, .const (.int .u8 0)), (10, .const (.int .u8 0))], ty, pos, af, none⟩ a w K Q else K (a.put (some d) undef) w := by
  go_simp
  exact h _ _ ⟨w.heap.size, rfl, at_lit w (bad 5) #[.int .u8 1, .int .u8 1, .int .u8 1, .int .u8 0, .int .u8 0, .int .u8 0, .int .u8 0, .int .u8 0, .int .u8 0, .int .u8 0, .int .u8 0] rfl⟩ (below_lit w _)

theorem st_b6 {ops : Array Oper} {Q : Exit → Act → World → Prop} {a : Act} {w : World} {K : Act → World → Prop} {d ty : Nat} {pos : String} {af : Array Edge} 
    (h : ∀ v w', IsBs (bad 6) v w' → Below w.heap.size w w' → K (a.put (some d) v) w') : if Region.wanted ⟨some d, Op.buildSlice 22 5 #[(0, .const (.int .u8 1)), (1, .const (.int .u8 1)), (2, .const (.int .u8 3)), (3, .const (.int .u8 0)), (4, .const (.int .u8 0))], ty, pos, af, none⟩ (yielded ops a.tmps) = true then Oper.wp Try.prog ⟨some d, Op.buildSlice 22 5 #[(0, .const (.int .u8 1)), (1, .const (.int .u8 1)), (2, .const (.int .u8 3)), (3, .const (.int .u8 0)), (4, .const (.int .u8 0))], ty, pos, af, none⟩ a w K Q else K (a.put (some d) undef) w := by
  go_simp
  exact h _ _ ⟨w.heap.size, rfl, at_lit w (bad 6) #[.int .u8 1, .int .u8 1, .int .u8 3, .int .u8 0, .int .u8 0] rfl⟩ (below_lit w _)

theorem st_b7 {ops : Array Oper} {Q : Exit → Act → World → Prop} {a : Act} {w : World} {K : Act → World → Prop} {d ty : Nat} {pos : String} {af : Array Edge} 
    (h : ∀ v w', IsBs (bad 7) v w' → Below w.heap.size w w' → K (a.put (some d) v) w') : if Region.wanted ⟨some d, Op.buildSlice 22 3 #[(0, .const (.int .u8 1)), (1, .const (.int .u8 1)), (2, .const (.int .u8 9))], ty, pos, af, none⟩ (yielded ops a.tmps) = true then Oper.wp Try.prog ⟨some d, Op.buildSlice 22 3 #[(0, .const (.int .u8 1)), (1, .const (.int .u8 1)), (2, .const (.int .u8 9))], ty, pos, af, none⟩ a w K Q else K (a.put (some d) undef) w := by
  go_simp
  exact h _ _ ⟨w.heap.size, rfl, at_lit w (bad 7) #[.int .u8 1, .int .u8 1, .int .u8 9] rfl⟩ (below_lit w _)

theorem st_cut {ops : Array Oper} {Q : Exit → Act → World → Prop} {a : Act} {w : World} {K : Act → World → Prop} {d ty : Nat} {pos : String} {af : Array Edge} {s : Nat} (h0 : IsBs twoB (a.tmps.getD s undef) w)
    (h : ∀ v, IsBl (bad 3) v w → K (a.put (some d) v) w) : if Region.wanted ⟨some d, Op.slice 22 (.tmp s) none (some (.const (.int .i64 16))) none, ty, pos, af, none⟩ (yielded ops a.tmps) = true then Oper.wp Try.prog ⟨some d, Op.slice 22 (.tmp s) none (some (.const (.int .i64 16))) none, ty, pos, af, none⟩ a w K Q else K (a.put (some d) undef) w := by
  obtain ⟨g, hv, hat⟩ := h0
  have hv' : a.tmps[s]?.getD undef = .slice (some ⟨g, 0, none⟩) 17 17 := slot hv
  clear hv
  go_simp
  exact h _ ⟨some ⟨g, 0, none⟩, 17, rfl, by decide, hat.take 16⟩

theorem st_more {ops : Array Oper} {Q : Exit → Act → World → Prop} {a : Act} {w : World} {K : Act → World → Prop} {d ty : Nat} {pos : String} {af : Array Edge} {s r : Nat} (h0 : IsBs twoB (a.tmps.getD s undef) w) (h1 : IsBs [0] (a.tmps.getD r undef) w)
    (h : ∀ v w', IsBl (bad 4) v w' → Below w.heap.size w w' → K (a.put (some d) v) w') : if Region.wanted ⟨some d, Op.call { callee := .builtin .append, args := #[.tmp s, .tmp r], argTypes := #[22, 22] }, ty, pos, af, none⟩ (yielded ops a.tmps) = true then Oper.wp Try.prog ⟨some d, Op.call { callee := .builtin .append, args := #[.tmp s, .tmp r], argTypes := #[22, 22] }, ty, pos, af, none⟩ a w K Q else K (a.put (some d) undef) w := by
  obtain ⟨g, hv, hat⟩ := h0
  obtain ⟨g1, hv1, hat1⟩ := h1
  obtain ⟨i0, hi, hz0, hz1, hz2⟩ := info_parts info5
  refine step_append_grows (o := ⟨some d, Op.call { callee := .builtin .append, args := #[.tmp s, .tmp r], argTypes := #[22, 22] }, ty, pos, af, none⟩) rfl (.tmp s) (.tmp r) 22 rfl 5 i0 _ 1 1 Try.underlying22 hi hz0 hz1 hz2 rfl (by omega) (some ⟨g, 0, none⟩) 17 17 (twoB.map B) (by simp only [Act.eval]; exact hv) (fun e => by cases e) (by simp [twoB]) (fun b e => by cases e; exact hat.src) ⟨g1, 0, none⟩ 1 1 ([0].map B) (by simp only [Act.eval]; exact hv1) rfl hat1.src (B_one [0]) (by omega) (by unfold maxLen; omega) (by omega) ?_
  intro v' w' ho hg
  have ho' : Own w' w.heap.size v' (twoB ++ [0]) := by unfold Own; rw [List.map_append]; exact ho
  obtain ⟨a', c', rfl, hc, hat'⟩ := ho'.form
  exact h _ w' ⟨a', c', rfl, hc, hat'⟩ (grown_none hg)

set_option maxRecDepth 100000 in
set_option maxHeartbeats 4000000 in
theorem st_bb {ops : Array Oper} {Q : Exit → Act → World → Prop} {a : Act} {w : World} {K : Act → World → Prop} {d ty : Nat} {pos : String} {af : Array Edge} (h1 : IsBl (bad 1) (a.tmps.getD 160 undef) w)
    (h2 : IsBl (bad 2) (a.tmps.getD 161 undef) w)
    (h3 : IsBl (bad 3) (a.tmps.getD 163 undef) w)
    (h4 : IsBl (bad 4) (a.tmps.getD 166 undef) w)
    (h5 : IsBl (bad 5) (a.tmps.getD 167 undef) w)
    (h6 : IsBl (bad 6) (a.tmps.getD 168 undef) w)
    (h7 : IsBl (bad 7) (a.tmps.getD 169 undef) w)
    (h : ∀ v w', IsBB v w' → Below w.heap.size w w' → K (a.put (some d) v) w') : if Region.wanted ⟨some d, Op.buildSlice 38 8 #[(0, .const (.slice none 0 0)), (1, .tmp 160), (2, .tmp 161), (3, .tmp 163), (4, .tmp 166), (5, .tmp 167), (6, .tmp 168), (7, .tmp 169)], ty, pos, af, none⟩ (yielded ops a.tmps) = true then Oper.wp Try.prog ⟨some d, Op.buildSlice 38 8 #[(0, .const (.slice none 0 0)), (1, .tmp 160), (2, .tmp 161), (3, .tmp 163), (4, .tmp 166), (5, .tmp 167), (6, .tmp 168), (7, .tmp 169)], ty, pos, af, none⟩ a w K Q else K (a.put (some d) undef) w := by
  obtain ⟨a1, c1, e1, l1, g1⟩ := h1
  replace e1 := slot e1
  obtain ⟨a2, c2, e2, l2, g2⟩ := h2
  replace e2 := slot e2
  obtain ⟨a3, c3, e3, l3, g3⟩ := h3
  replace e3 := slot e3
  obtain ⟨a4, c4, e4, l4, g4⟩ := h4
  replace e4 := slot e4
  obtain ⟨a5, c5, e5, l5, g5⟩ := h5
  replace e5 := slot e5
  obtain ⟨a6, c6, e6, l6, g6⟩ := h6
  replace e6 := slot e6
  obtain ⟨a7, c7, e7, l7, g7⟩ := h7
  replace e7 := slot e7
  go_simp
  have hb := below_lit w (.cells #[.slice none 0 0, .slice a1 (bad 1).length c1, .slice a2 (bad 2).length c2, .slice a3 (bad 3).length c3, .slice a4 (bad 4).length c4, .slice a5 (bad 5).length c5, .slice a6 (bad 6).length c6, .slice a7 (bad 7).length c7] 22)
  refine h _ _ ⟨w.heap.size, [.slice none 0 0, .slice a1 (bad 1).length c1, .slice a2 (bad 2).length c2, .slice a3 (bad 3).length c3, .slice a4 (bad 4).length c4, .slice a5 (bad 5).length c5, .slice a6 (bad 6).length c6, .slice a7 (bad 7).length c7], rfl, rfl, cat_lit w 22 _ _ rfl, fun k hk => ?_⟩ hb
  match k, hk with
  | 0, _ => exact ⟨none, 0, rfl, Nat.le_refl _, at_nil _ _⟩
  | 1, _ => exact ⟨a1, c1, rfl, l1, g1.below hb⟩
  | 2, _ => exact ⟨a2, c2, rfl, l2, g2.below hb⟩
  | 3, _ => exact ⟨a3, c3, rfl, l3, g3.below hb⟩
  | 4, _ => exact ⟨a4, c4, rfl, l4, g4.below hb⟩
  | 5, _ => exact ⟨a5, c5, rfl, l5, g5.below hb⟩
  | 6, _ => exact ⟨a6, c6, rfl, l6, g6.below hb⟩
  | 7, _ => exact ⟨a7, c7, rfl, l7, g7.below hb⟩

theorem st_len8 {ops : Array Oper} {Q : Exit → Act → World → Prop} {a : Act} {w : World} {K : Act → World → Prop} {d ty : Nat} {pos : String} {af : Array Edge} (h0 : IsBB (a.tmps.getD 170 undef) w)
    (h : K (a.put (some d) (.int .i64 8)) w) : if Region.wanted ⟨some d, Op.call { callee := .builtin .len, args := #[.tmp 170], argTypes := #[38] }, ty, pos, af, none⟩ (yielded ops a.tmps) = true then Oper.wp Try.prog ⟨some d, Op.call { callee := .builtin .len, args := #[.tmp 170], argTypes := #[38] }, ty, pos, af, none⟩ a w K Q else K (a.put (some d) undef) w := by
  obtain ⟨g, vs, e, _⟩ := h0
  replace e := slot e
  go_simp
  exact h

end Go.Proofs.Ytkkdiciadkcmmaa
