/- FieldNumbers: fields that are not right, in one table. -/
import Derived.Test.YtkkdiciadkcmmaaNumA
import Derived.Test.YtkkdiciadkcmmaaPut
namespace Go.Proofs.Ytkkdiciadkcmmaa
open Go.RowKit

def zs (n : Nat) : ByteArray := ⟨(List.replicate n 0).toArray⟩
theorem zs_size (n : Nat) : (zs n).size = n := by simp [zs, ByteArray.size]

theorem made_rep (z : Value) (hz : z.cells = #[z]) (n : Nat) : (madeCells z.cells (n * 1)).toList = List.replicate n z := by
  rw [hz]
  simp only [madeCells, Array.toList_map, Array.toList_range, Nat.mul_one]
  apply List.ext_getElem
  · simp
  · intro i h1 h2
    simp [Nat.mod_one]

theorem st_mkns (n : Nat) {ops : Array Oper} {Q : Exit → Act → World → Prop} {a : Act} {w : World} {K : Act → World → Prop} {d ty : Nat} {pos : String} {af : Array Edge} {L : Int} (hL : L = (n : Int)) (hn : n ≤ 100000)
    (h : ∀ v w', IsNs (List.replicate n 0) v w' → Below w.heap.size w w' → K (a.put (some d) v) w') :
    if Region.wanted ⟨some d, Op.makeSlice 27 (.const (.int .i64 L)) (.const (.int .i64 L)), ty, pos, af, none⟩ (yielded ops a.tmps) = true then Oper.wp Try.prog ⟨some d, Op.makeSlice 27 (.const (.int .i64 L)) (.const (.int .i64 L)), ty, pos, af, none⟩ a w K Q else K (a.put (some d) undef) w := by
  obtain ⟨i0, hi, hz0, hz1, hz2⟩ := info_parts info2
  refine st_make 27 2 n 1 8 i0 Try.underlying27 hi hz0 hz1 hz2 hL (by omega) (by unfold maxLen; omega) (fun w' ho hb => h _ w' ⟨w.heap.size, by simp, ?_⟩ hb)
  rw [made_rep _ rfl] at ho
  have := owns_cat ho
  unfold NAt nvals
  rwa [List.map_replicate]

theorem st_mkts (n : Nat) {ops : Array Oper} {Q : Exit → Act → World → Prop} {a : Act} {w : World} {K : Act → World → Prop} {d ty : Nat} {pos : String} {af : Array Edge} {L : Int} (hL : L = (n : Int)) (hn : n ≤ 100000)
    (h : ∀ v w', IsTs (List.replicate n ByteArray.empty) v w' → Below w.heap.size w w' → K (a.put (some d) v) w') :
    if Region.wanted ⟨some d, Op.makeSlice 28 (.const (.int .i64 L)) (.const (.int .i64 L)), ty, pos, af, none⟩ (yielded ops a.tmps) = true then Oper.wp Try.prog ⟨some d, Op.makeSlice 28 (.const (.int .i64 L)) (.const (.int .i64 L)), ty, pos, af, none⟩ a w K Q else K (a.put (some d) undef) w := by
  obtain ⟨i0, hi, hz0, hz1, hz2⟩ := info_parts info9
  refine st_make 28 9 n 1 16 i0 Try.underlying28 hi hz0 hz1 hz2 hL (by omega) (by unfold maxLen; omega) (fun w' ho hb => h _ w' ⟨w.heap.size, by simp, ?_⟩ hb)
  rw [made_rep _ rfl] at ho
  have := owns_cat ho
  unfold TAt tvals
  rwa [List.map_replicate]

theorem st_mkbs (n : Nat) {ops : Array Oper} {Q : Exit → Act → World → Prop} {a : Act} {w : World} {K : Act → World → Prop} {d ty : Nat} {pos : String} {af : Array Edge} {L : Int} (hL : L = (n : Int)) (hn : n ≤ 100000)
    (h : ∀ v w', IsBs (List.replicate n 0) v w' → Below w.heap.size w w' → K (a.put (some d) v) w') :
    if Region.wanted ⟨some d, Op.makeSlice 22 (.const (.int .i64 L)) (.const (.int .i64 L)), ty, pos, af, none⟩ (yielded ops a.tmps) = true then Oper.wp Try.prog ⟨some d, Op.makeSlice 22 (.const (.int .i64 L)) (.const (.int .i64 L)), ty, pos, af, none⟩ a w K Q else K (a.put (some d) undef) w := by
  obtain ⟨i0, hi, hz0, hz1, hz2⟩ := info_parts info5
  refine st_make 22 5 n 1 1 i0 Try.underlying22 hi hz0 hz1 hz2 hL (by omega) (by unfold maxLen; omega) (fun w' ho hb => h _ w' ⟨w.heap.size, by simp, (row_made ho).at⟩ hb)

/-- Fields behind a slice. -/
def IsFl (fs : List Fd) (v : Value) (w : World) : Prop := ∃ (a : Option Addr) (its : List It) (c : Nat), v = .slice a its.length c ∧ fds its = fs ∧ FAt w a its
theorem IsFl.on {f : List Fd} {v : Value} {w w' : World} (h : IsFl f v w) (hb : Below w.heap.size w w') : IsFl f v w' := by
  obtain ⟨a, its, c, h1, h2, h3⟩ := h; exact ⟨a, its, c, h1, h2, h3.below hb⟩
theorem IsFs.fl {f : List Fd} {v : Value} {w : World} (h : IsFs f v w) : IsFl f v w := by
  obtain ⟨g, its, h1, h2, h3⟩ := h; exact ⟨_, its, _, h1, h2, h3⟩

/-- So many fields, all of them fine but for how many they are. -/
def manyF (n : Nat) : List Fd := (List.range n).map fun i => ⟨UInt8.ofNat i, 1, 1, ByteArray.empty, [], []⟩

/-- The table. -/
def tbl : Nat → List Fd
  | 0 => [⟨1, 1, 0, ByteArray.empty, [], []⟩]
  | 1 => [⟨1, 2, 0, ByteArray.empty, [], []⟩]
  | 2 => [⟨2, 1, 1, ByteArray.empty, [], []⟩, ⟨2, 1, 1, ByteArray.empty, [], []⟩]
  | 3 => [⟨2, 1, 1, ByteArray.empty, [], []⟩, ⟨1, 1, 1, ByteArray.empty, [], []⟩]
  | 4 => [⟨1, 1, 5, ⟨#[97]⟩, [], []⟩]
  | 5 => [⟨1, 2, 5, ⟨#[97]⟩, [], []⟩]
  | 6 => [⟨1, 3, 0, ByteArray.empty, List.replicate 257 0, []⟩]
  | 7 => [⟨1, 4, 0, ByteArray.empty, [], List.replicate 257 ByteArray.empty⟩]
  | 8 => [⟨1, 4, 0, ByteArray.empty, [], []⟩]
  | 9 => [⟨1, 3, 0, ByteArray.empty, [1], [ByteArray.empty]⟩]
  | 10 => [⟨1, 0, 0, ByteArray.empty, [], []⟩]
  | 11 => [⟨1, 5, 1, ByteArray.empty, [], []⟩]
  | 12 => [⟨1, 2, 0, ⟨(List.replicate 65536 0).toArray⟩, [], []⟩]
  | 13 => [⟨1, 4, 0, ByteArray.empty, [], [⟨(List.replicate 65536 0).toArray⟩]⟩]
  | _ => manyF 65

theorem big_size : (⟨(List.replicate 65536 0).toArray⟩ : ByteArray).size = 65536 := zs_size 65536

theorem not_good {f : Fd} {r : List Fd} (h : ¬ Good f) : ¬ Right (f :: r) := fun hr => h (hr.2 0 (by simp)).1

theorem not_ns (ns : List Int) (h : 256 < ns.length) : ¬ Good ⟨1, 3, 0, ByteArray.empty, ns, []⟩ := by
  simp [Good]
  intro _
  omega

theorem not_ts (ts : List ByteArray) (h : 256 < ts.length) : ¬ Good ⟨1, 4, 0, ByteArray.empty, [], ts⟩ := by
  simp [Good]
  intro _ _
  omega

theorem not_text (x : ByteArray) (h : 65535 < x.size) : ¬ Good ⟨1, 2, 0, x, [], []⟩ := by
  simp [Good]
  intro _
  omega

theorem not_texts (x : ByteArray) (h : 65535 < x.size) : ¬ Good ⟨1, 4, 0, ByteArray.empty, [], [x]⟩ := by
  simp [Good]
  omega

theorem tbl_not (k : Nat) : ¬ Right (tbl k) := by
  match k with
  | 0 => exact not_good (by simp [Good])
  | 1 => exact not_good (by simp [Good])
  | 2 => exact fun hr => absurd ((hr.2 1 (by simp [tbl])).2 (by omega)) (by simp [tbl])
  | 3 => exact fun hr => absurd ((hr.2 1 (by simp [tbl])).2 (by omega)) (by simp [tbl])
  | 4 => exact not_good (by simp only [Good]; decide)
  | 5 => exact not_good (by simp [Good])
  | 6 => exact not_good (not_ns _ (by rw [List.length_replicate]; omega))
  | 7 => exact not_good (not_ts _ (by rw [List.length_replicate]; omega))
  | 8 => exact not_good (by simp [Good])
  | 9 => exact not_good (by simp [Good])
  | 10 => exact not_good (by simp [Good])
  | 11 => exact not_good (by simp [Good])
  | 12 => exact not_good (not_text _ (by rw [big_size]; omega))
  | 13 => exact not_good (not_texts _ (by rw [big_size]; omega))
  | n + 14 => exact fun hr => absurd hr.1 (by simp [tbl, manyF])

theorem in1 : In64 1 := by unfold In64; omega
theorem in5 : In64 5 := by unfold In64; omega
theorem in_rep {n : Nat} : ∀ x ∈ List.replicate n (0 : Int), In64 x := fun x hx => by rw [List.eq_of_mem_replicate hx]; exact in0
theorem in_one : ∀ x ∈ [(1 : Int)], In64 x := fun x hx => by rw [List.mem_singleton.1 hx]; exact in1

/-- The table in memory: a row of fifteen slices of fields. -/
def IsLL (v : Value) (w : World) : Prop := ∃ (g : Nat) (vs : List Value), v = .slice (some ⟨g, 0, none⟩) 15 15 ∧ vs.length = 15 ∧ CAt w (some ⟨g, 0, none⟩) vs ∧ ∀ k (hk : k < vs.length), IsFl (tbl k) vs[k] w
theorem IsLL.on {v : Value} {w w' : World} (h : IsLL v w) (hb : Below w.heap.size w w') : IsLL v w' := by
  obtain ⟨g, vs, h1, h2, h3, h4⟩ := h; exact ⟨g, vs, h1, h2, h3.below hb, fun k hk => (h4 k hk).on hb⟩

/-- What each operation of the table's region leaves. -/
def pr9 (v6 : Value) : Nat → Value → World → Prop
  | 0 => IsIt ⟨1, 1, 0, ByteArray.empty, [], []⟩
  | 1 => IsFs (tbl 0)
  | 2 => IsIt ⟨1, 2, 0, ByteArray.empty, [], []⟩
  | 3 => IsFs (tbl 1)
  | 4 => IsIt ⟨2, 1, 1, ByteArray.empty, [], []⟩
  | 5 => IsIt ⟨2, 1, 1, ByteArray.empty, [], []⟩
  | 6 => IsFs (tbl 2)
  | 7 => IsIt ⟨2, 1, 1, ByteArray.empty, [], []⟩
  | 8 => IsIt ⟨1, 1, 1, ByteArray.empty, [], []⟩
  | 9 => IsFs (tbl 3)
  | 10 => IsIt ⟨1, 1, 5, ⟨#[97]⟩, [], []⟩
  | 11 => IsFs (tbl 4)
  | 12 => IsIt ⟨1, 2, 5, ⟨#[97]⟩, [], []⟩
  | 13 => IsFs (tbl 5)
  | 14 => IsNs (List.replicate 257 0)
  | 15 => IsIt ⟨1, 3, 0, ByteArray.empty, List.replicate 257 0, []⟩
  | 16 => IsFs (tbl 6)
  | 17 => IsTs (List.replicate 257 ByteArray.empty)
  | 18 => IsIt ⟨1, 4, 0, ByteArray.empty, [], List.replicate 257 ByteArray.empty⟩
  | 19 => IsFs (tbl 7)
  | 20 => IsIt ⟨1, 4, 0, ByteArray.empty, [], []⟩
  | 21 => IsFs (tbl 8)
  | 22 => IsNs [1]
  | 23 => IsTs [ByteArray.empty]
  | 24 => IsIt ⟨1, 3, 0, ByteArray.empty, [1], [ByteArray.empty]⟩
  | 25 => IsFs (tbl 9)
  | 26 => IsIt ⟨1, 0, 0, ByteArray.empty, [], []⟩
  | 27 => IsFs (tbl 10)
  | 28 => IsIt ⟨1, 5, 1, ByteArray.empty, [], []⟩
  | 29 => IsFs (tbl 11)
  | 30 => IsBs (List.replicate 65536 0)
  | 31 => fun v _ => v = .string ⟨(List.replicate 65536 0).toArray⟩
  | 32 => IsIt ⟨1, 2, 0, ⟨(List.replicate 65536 0).toArray⟩, [], []⟩
  | 33 => IsFs (tbl 12)
  | 34 => IsBs (List.replicate 65536 0)
  | 35 => fun v _ => v = .string ⟨(List.replicate 65536 0).toArray⟩
  | 36 => IsTs [⟨(List.replicate 65536 0).toArray⟩]
  | 37 => IsIt ⟨1, 4, 0, ByteArray.empty, [], [⟨(List.replicate 65536 0).toArray⟩]⟩
  | 38 => IsFs (tbl 13)
  | 39 => fun v w => v = v6 ∧ IsFl (manyF 65) v w
  | 40 => IsLL
  | 41 => fun v _ => v = .int .i64 15
  | 42 => fun v _ => v = .int .i64 0
  | _ => fun _ _ => True

theorem pr9_on (v6 : Value) (i : Nat) (v : Value) (w w' : World) (h : pr9 v6 i v w) (hb : Below w.heap.size w w') : pr9 v6 i v w' := by
  match i, h with
  | 0, h => exact IsIt.on h hb
  | 1, h => exact IsFs.on h hb
  | 2, h => exact IsIt.on h hb
  | 3, h => exact IsFs.on h hb
  | 4, h => exact IsIt.on h hb
  | 5, h => exact IsIt.on h hb
  | 6, h => exact IsFs.on h hb
  | 7, h => exact IsIt.on h hb
  | 8, h => exact IsIt.on h hb
  | 9, h => exact IsFs.on h hb
  | 10, h => exact IsIt.on h hb
  | 11, h => exact IsFs.on h hb
  | 12, h => exact IsIt.on h hb
  | 13, h => exact IsFs.on h hb
  | 14, h => exact IsNs.on h hb
  | 15, h => exact IsIt.on h hb
  | 16, h => exact IsFs.on h hb
  | 17, h => exact IsTs.on h hb
  | 18, h => exact IsIt.on h hb
  | 19, h => exact IsFs.on h hb
  | 20, h => exact IsIt.on h hb
  | 21, h => exact IsFs.on h hb
  | 22, h => exact IsNs.on h hb
  | 23, h => exact IsTs.on h hb
  | 24, h => exact IsIt.on h hb
  | 25, h => exact IsFs.on h hb
  | 26, h => exact IsIt.on h hb
  | 27, h => exact IsFs.on h hb
  | 28, h => exact IsIt.on h hb
  | 29, h => exact IsFs.on h hb
  | 30, h => exact IsBs.on h hb
  | 31, h => exact h
  | 32, h => exact IsIt.on h hb
  | 33, h => exact IsFs.on h hb
  | 34, h => exact IsBs.on h hb
  | 35, h => exact h
  | 36, h => exact IsTs.on h hb
  | 37, h => exact IsIt.on h hb
  | 38, h => exact IsFs.on h hb
  | 39, h => exact ⟨h.1, h.2.on hb⟩
  | 40, h => exact IsLL.on h hb
  | 41, h => exact h
  | 42, h => exact h
  | n + 43, _ => trivial

set_option maxRecDepth 100000 in
set_option maxHeartbeats 4000000 in
theorem st_ll {ops : Array Oper} {Q : Exit → Act → World → Prop} {a : Act} {w : World} {K : Act → World → Prop} {d ty : Nat} {pos : String} {af : Array Edge}
    (h0 : IsFl (tbl 0) (a.tmps.getD 62 undef) w)
    (h1 : IsFl (tbl 1) (a.tmps.getD 64 undef) w)
    (h2 : IsFl (tbl 2) (a.tmps.getD 67 undef) w)
    (h3 : IsFl (tbl 3) (a.tmps.getD 70 undef) w)
    (h4 : IsFl (tbl 4) (a.tmps.getD 72 undef) w)
    (h5 : IsFl (tbl 5) (a.tmps.getD 74 undef) w)
    (h6 : IsFl (tbl 6) (a.tmps.getD 77 undef) w)
    (h7 : IsFl (tbl 7) (a.tmps.getD 80 undef) w)
    (h8 : IsFl (tbl 8) (a.tmps.getD 82 undef) w)
    (h9 : IsFl (tbl 9) (a.tmps.getD 86 undef) w)
    (h10 : IsFl (tbl 10) (a.tmps.getD 88 undef) w)
    (h11 : IsFl (tbl 11) (a.tmps.getD 90 undef) w)
    (h12 : IsFl (tbl 12) (a.tmps.getD 94 undef) w)
    (h13 : IsFl (tbl 13) (a.tmps.getD 99 undef) w)
    (h14 : IsFl (tbl 14) (a.tmps.getD 100 undef) w)
    (h : ∀ v w', IsLL v w' → Below w.heap.size w w' → K (a.put (some d) v) w') :
    if Region.wanted ⟨some d, Op.buildSlice 33 15 #[(0, .tmp 62), (1, .tmp 64), (2, .tmp 67), (3, .tmp 70), (4, .tmp 72), (5, .tmp 74), (6, .tmp 77), (7, .tmp 80), (8, .tmp 82), (9, .tmp 86), (10, .tmp 88), (11, .tmp 90), (12, .tmp 94), (13, .tmp 99), (14, .tmp 100)], ty, pos, af, none⟩ (yielded ops a.tmps) = true then Oper.wp Try.prog ⟨some d, Op.buildSlice 33 15 #[(0, .tmp 62), (1, .tmp 64), (2, .tmp 67), (3, .tmp 70), (4, .tmp 72), (5, .tmp 74), (6, .tmp 77), (7, .tmp 80), (8, .tmp 82), (9, .tmp 86), (10, .tmp 88), (11, .tmp 90), (12, .tmp 94), (13, .tmp 99), (14, .tmp 100)], ty, pos, af, none⟩ a w K Q else K (a.put (some d) undef) w := by
  obtain ⟨a0, s0, c0, e0, f0, g0⟩ := h0
  replace e0 := slot e0
  obtain ⟨a1, s1, c1, e1, f1, g1⟩ := h1
  replace e1 := slot e1
  obtain ⟨a2, s2, c2, e2, f2, g2⟩ := h2
  replace e2 := slot e2
  obtain ⟨a3, s3, c3, e3, f3, g3⟩ := h3
  replace e3 := slot e3
  obtain ⟨a4, s4, c4, e4, f4, g4⟩ := h4
  replace e4 := slot e4
  obtain ⟨a5, s5, c5, e5, f5, g5⟩ := h5
  replace e5 := slot e5
  obtain ⟨a6, s6, c6, e6, f6, g6⟩ := h6
  replace e6 := slot e6
  obtain ⟨a7, s7, c7, e7, f7, g7⟩ := h7
  replace e7 := slot e7
  obtain ⟨a8, s8, c8, e8, f8, g8⟩ := h8
  replace e8 := slot e8
  obtain ⟨a9, s9, c9, e9, f9, g9⟩ := h9
  replace e9 := slot e9
  obtain ⟨a10, s10, c10, e10, f10, g10⟩ := h10
  replace e10 := slot e10
  obtain ⟨a11, s11, c11, e11, f11, g11⟩ := h11
  replace e11 := slot e11
  obtain ⟨a12, s12, c12, e12, f12, g12⟩ := h12
  replace e12 := slot e12
  obtain ⟨a13, s13, c13, e13, f13, g13⟩ := h13
  replace e13 := slot e13
  obtain ⟨a14, s14, c14, e14, f14, g14⟩ := h14
  replace e14 := slot e14
  go_simp
  have hb := below_lit w (.cells #[.slice a0 s0.length c0, .slice a1 s1.length c1, .slice a2 s2.length c2, .slice a3 s3.length c3, .slice a4 s4.length c4, .slice a5 s5.length c5, .slice a6 s6.length c6, .slice a7 s7.length c7, .slice a8 s8.length c8, .slice a9 s9.length c9, .slice a10 s10.length c10, .slice a11 s11.length c11, .slice a12 s12.length c12, .slice a13 s13.length c13, .slice a14 s14.length c14] 31)
  refine h _ _ ⟨w.heap.size, [.slice a0 s0.length c0, .slice a1 s1.length c1, .slice a2 s2.length c2, .slice a3 s3.length c3, .slice a4 s4.length c4, .slice a5 s5.length c5, .slice a6 s6.length c6, .slice a7 s7.length c7, .slice a8 s8.length c8, .slice a9 s9.length c9, .slice a10 s10.length c10, .slice a11 s11.length c11, .slice a12 s12.length c12, .slice a13 s13.length c13, .slice a14 s14.length c14], rfl, rfl, cat_lit w 31 _ _ rfl, fun k hk => ?_⟩ hb
  match k, hk with
  | 0, _ => exact ⟨_, s0, _, rfl, f0, g0.below hb⟩
  | 1, _ => exact ⟨_, s1, _, rfl, f1, g1.below hb⟩
  | 2, _ => exact ⟨_, s2, _, rfl, f2, g2.below hb⟩
  | 3, _ => exact ⟨_, s3, _, rfl, f3, g3.below hb⟩
  | 4, _ => exact ⟨_, s4, _, rfl, f4, g4.below hb⟩
  | 5, _ => exact ⟨_, s5, _, rfl, f5, g5.below hb⟩
  | 6, _ => exact ⟨_, s6, _, rfl, f6, g6.below hb⟩
  | 7, _ => exact ⟨_, s7, _, rfl, f7, g7.below hb⟩
  | 8, _ => exact ⟨_, s8, _, rfl, f8, g8.below hb⟩
  | 9, _ => exact ⟨_, s9, _, rfl, f9, g9.below hb⟩
  | 10, _ => exact ⟨_, s10, _, rfl, f10, g10.below hb⟩
  | 11, _ => exact ⟨_, s11, _, rfl, f11, g11.below hb⟩
  | 12, _ => exact ⟨_, s12, _, rfl, f12, g12.below hb⟩
  | 13, _ => exact ⟨_, s13, _, rfl, f13, g13.below hb⟩
  | 14, _ => exact ⟨_, s14, _, rfl, f14, g14.below hb⟩

theorem st_len {ops : Array Oper} {Q : Exit → Act → World → Prop} {a : Act} {w : World} {K : Act → World → Prop} {d ty : Nat} {pos : String} {af : Array Edge} (h0 : IsLL (a.tmps.getD 101 undef) w) (h : K (a.put (some d) (.int .i64 15)) w) :
    if Region.wanted ⟨some d, Op.call { callee := .builtin .len, args := #[.tmp 101], argTypes := #[33] }, ty, pos, af, none⟩ (yielded ops a.tmps) = true then Oper.wp Try.prog ⟨some d, Op.call { callee := .builtin .len, args := #[.tmp 101], argTypes := #[33] }, ty, pos, af, none⟩ a w K Q else K (a.put (some d) undef) w := by
  obtain ⟨g, vs, e, _⟩ := h0
  replace e := slot e
  go_simp
  exact h

end Go.Proofs.Ytkkdiciadkcmmaa
