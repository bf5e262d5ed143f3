/- SessionNumbers: the lists of clients that are not right, and what Look and Right say of them. -/
import Derived.Test.YthjggjjocfbjcaaNumD
import Derived.Test.YthjggjjocfbjcaaDraw
import Derived.Test.YthjggjjocfbjcaaValsA
namespace Go.Proofs.Ythjggjjocfbjcaa
open Go.RowKit


theorem cat_head {w : World} {a : Option Addr} {x y : List Value} (h : CAt w a (x ++ y)) : CAt w a x := by
  intro hne
  obtain ⟨b, o, e, hc⟩ := h (by intro e; exact hne (List.append_eq_nil_iff.1 e).1)
  refine ⟨b, o, e, fun i hi => ?_⟩
  rw [hc i (by rw [List.length_append]; omega), List.getElem_append_left hi]

/-- A list of clients that is not right. -/
def BadC (w : World) (v : Value) : Prop := ∃ a c n L, v = .slice a n c ∧ L.length = n ∧ n ≤ 17 ∧ LAt w 0 a L ∧ rightP (L.map CV.flat) = false

theorem BadC.below {w w2 : World} {v : Value} (h : BadC w v) (hb : Below w.heap.size w w2) : BadC w2 v := by
  obtain ⟨a, c, n, L, e, h1, h2, h3, h4⟩ := h
  exact ⟨a, c, n, L, e, h1, h2, h3.below hb, h4⟩

theorem bad_one (w : World) (i f : Int) (ka : Option Addr) (kc kn : Nat) (ks : List KV) (hl : ks.length = kn) (hk : KAt w 0 ka ks) (hr : rightP [(i, f, ks.map KV.flat)] = false) :
    BadC (w.alloc (.cells #[.int .i64 i, .int .i64 f, .slice ka kn kc] 34)) (.slice (some ⟨w.heap.size, 0, none⟩) 1 1) := by
  subst hl
  refine ⟨_, _, _, [⟨i, f, ka, kc, ks⟩], rfl, rfl, by omega, ⟨cat_lit w 34 [.int .i64 i, .int .i64 f, .slice ka ks.length kc] _ rfl, fun _ _ => Nat.zero_le _, fun c hc => ?_⟩, hr⟩
  simp at hc
  subst hc
  exact hk.below (below_lit _ _)

theorem bad_two (w : World) : BadC (w.alloc (.cells #[.int .i64 2, .int .i64 0, .slice none 0 0, .int .i64 2, .int .i64 0, .slice none 0 0] 34)) (.slice (some ⟨w.heap.size, 0, none⟩) 2 2) := by
  refine ⟨_, _, _, [⟨2, 0, none, 0, []⟩, ⟨2, 0, none, 0, []⟩], rfl, rfl, by omega, ⟨cat_lit w 34 [.int .i64 2, .int .i64 0, .slice none 0 0, .int .i64 2, .int .i64 0, .slice none 0 0] _ rfl, fun _ _ => Nat.zero_le _, fun c hc => ?_⟩, w_twice⟩
  simp at hc
  subst hc
  exact KAt.nil _ _

theorem k_one (w : World) : KAt (w.alloc (.cells #[.int .i64 3, .slice none 0 0] 36)) 0 (some ⟨w.heap.size, 0, none⟩) [⟨3, none, 0, []⟩] :=
  ⟨cat_lit w 36 [.int .i64 3, .slice none 0 0] _ rfl, fun _ _ => Nat.zero_le _, (fun k hk => by simp at hk; subst hk; exact at_nil _ _), (fun k hk x hx => by simp at hk; subst hk; cases hx), (fun k hk => by simp at hk; subst hk; simp [SMALL])⟩

def Z9 : List KV := List.replicate 9 ⟨0, none, 0, []⟩
def Z17 : List CV := List.replicate 17 ⟨0, 0, none, 0, []⟩

theorem k_nine {w : World} {a : Option Addr} (h : CAt w a (Z9.flatMap KV.cells)) : KAt w 0 a Z9 :=
  ⟨h, fun _ _ => Nat.zero_le _, (fun k hk => by rw [List.eq_of_mem_replicate hk]; exact at_nil _ _), (fun k hk x hx => by rw [List.eq_of_mem_replicate hk] at hx; cases hx), (fun k hk => by rw [List.eq_of_mem_replicate hk]; simp [SMALL])⟩

theorem info36y : (Try.prog.info? 36).map (fun i => (i.zero, i.size, i.bytes)) = some (some (.agg #[.int .i64 0, .slice none 0 0]), 2, 32) := by kernel_rfl
theorem info34y : (Try.prog.info? 34).map (fun i => (i.zero, i.size, i.bytes)) = some (some (.agg #[.int .i64 0, .int .i64 0, .slice none 0 0]), 3, 40) := by kernel_rfl

theorem nine_run (w : World) : ∃ w2, (Instr.makeSlice 32 (.int .i64 9) (.int .i64 9)).run Try.prog w = .ok (.slice (some ⟨w.heap.size, 0, none⟩) 9 9) w2 ∧ KAt w2 0 (some ⟨w.heap.size, 0, none⟩) Z9 ∧ Below w.heap.size w w2 := by
  obtain ⟨i0, hi, hz0, hz1, hz2⟩ := info_parts info36y
  obtain ⟨w2, hrun, r1, r2⟩ := run_make_full (P := Try.prog) w w.heap.size 32 36 i0 _ 2 Try.underlying32 hi hz0 hz1 .i64 .i64 9 (by rw [hz2]; omega) (by unfold maxLen; omega) (Nat.le_refl _)
  refine ⟨w2, hrun, k_nine ?_, (Below.refl _ _).grown r2 (Nat.le_refl _) (fun k hk => by cases hk)⟩
  rw [show (madeCells (Value.agg #[.int .i64 0, .slice none 0 0]).cells (9 * 2)).toList = Z9.flatMap KV.cells from by kernel_rfl] at r1
  exact owns_cat r1

theorem many_run (w : World) : ∃ w2, (Instr.makeSlice 22 (.int .i64 17) (.int .i64 17)).run Try.prog w = .ok (.slice (some ⟨w.heap.size, 0, none⟩) 17 17) w2 ∧ BadC w2 (.slice (some ⟨w.heap.size, 0, none⟩) 17 17) ∧ Below w.heap.size w w2 := by
  obtain ⟨i0, hi, hz0, hz1, hz2⟩ := info_parts info34y
  obtain ⟨w2, hrun, r1, r2⟩ := run_make_full (P := Try.prog) w w.heap.size 22 34 i0 _ 3 Try.underlying22 hi hz0 hz1 .i64 .i64 17 (by rw [hz2]; omega) (by unfold maxLen; omega) (Nat.le_refl _)
  refine ⟨w2, hrun, ⟨_, _, _, Z17, rfl, rfl, by omega, ⟨?_, fun _ _ => Nat.zero_le _, fun c hc => ?_⟩, ?_⟩, (Below.refl _ _).grown r2 (Nat.le_refl _) (fun k hk => by cases hk)⟩
  · rw [show (madeCells (Value.agg #[.int .i64 0, .int .i64 0, .slice none 0 0]).cells (17 * 3)).toList = Z17.flatMap CV.cells from by kernel_rfl] at r1
    exact owns_cat r1
  · rw [List.eq_of_mem_replicate hc]; exact KAt.nil _ _
  · exact w_many

section
variable {ops : Array Oper} {Q : Exit → Act → World → Prop} {a : Act} {w : World} {K : Act → World → Prop} {d : Tmp} {ty : TypeId} {pos : String} {af : Array Edge} {gd : Option (Nat × Bool)}

set_option maxRecDepth 100000 in
theorem wp_bc1 (s0 : Nat) (i f : Int) (ka : Option Addr) (kn kc : Nat) (hx : a.tmps.getD s0 undef = .agg #[.int .i64 i, .int .i64 f, .slice ka kn kc])
    (h : K (a.put (some d) (.slice (some ⟨w.heap.size, 0, none⟩) 1 1)) (w.alloc (.cells #[.int .i64 i, .int .i64 f, .slice ka kn kc] 34))) : Oper.wp Try.prog ⟨some d, Op.buildSlice 22 1 #[(0, .tmp s0)], ty, pos, af, gd⟩ a w K Q := by
  have e1 := slot hx
  go_simp
  exact h
set_option maxRecDepth 100000 in
theorem wp_bc2 (s0 s1 : Nat) (hx : a.tmps.getD s0 undef = .agg #[.int .i64 2, .int .i64 0, .slice none 0 0]) (hy : a.tmps.getD s1 undef = .agg #[.int .i64 2, .int .i64 0, .slice none 0 0])
    (h : K (a.put (some d) (.slice (some ⟨w.heap.size, 0, none⟩) 2 2)) (w.alloc (.cells #[.int .i64 2, .int .i64 0, .slice none 0 0, .int .i64 2, .int .i64 0, .slice none 0 0] 34))) : Oper.wp Try.prog ⟨some d, Op.buildSlice 22 2 #[(0, .tmp s0), (1, .tmp s1)], ty, pos, af, gd⟩ a w K Q := by
  have e1 := slot hx
  have e2 := slot hy
  go_simp
  exact h
set_option maxRecDepth 100000 in
theorem wp_bk1 (s0 : Nat) (hx : a.tmps.getD s0 undef = .agg #[.int .i64 3, .slice none 0 0])
    (h : K (a.put (some d) (.slice (some ⟨w.heap.size, 0, none⟩) 1 1)) (w.alloc (.cells #[.int .i64 3, .slice none 0 0] 36))) : Oper.wp Try.prog ⟨some d, Op.buildSlice 32 1 #[(0, .tmp s0)], ty, pos, af, gd⟩ a w K Q := by
  have e1 := slot hx
  go_simp
  exact h
set_option maxRecDepth 100000 in
theorem wp_b34 (x y : Int) (s0 : Nat) (ka : Option Addr) (kn kc : Nat) (hx : a.tmps.getD s0 undef = .slice ka kn kc)
    (h : K (a.put (some d) (.agg #[.int .i64 x, .int .i64 y, .slice ka kn kc])) w) : Oper.wp Try.prog ⟨some d, Op.build 34 #[(0, .const (.int .i64 x)), (1, .const (.int .i64 y)), (2, .tmp s0)], ty, pos, af, gd⟩ a w K Q := by
  have e1 := slot hx
  go_simp
  exact h
set_option maxRecDepth 100000 in
theorem wp_b34b (x : Int) (s0 : Nat) (ka : Option Addr) (kn kc : Nat) (hx : a.tmps.getD s0 undef = .slice ka kn kc)
    (h : K (a.put (some d) (.agg #[.int .i64 x, .int .i64 0, .slice ka kn kc])) w) : Oper.wp Try.prog ⟨some d, Op.build 34 #[(0, .const (.int .i64 x)), (2, .tmp s0)], ty, pos, af, gd⟩ a w K Q := by
  have e1 := slot hx
  go_simp
  exact h
set_option maxRecDepth 100000 in
theorem wp_b34c (x : Int) (h : K (a.put (some d) (.agg #[.int .i64 x, .int .i64 0, .slice none 0 0])) w) : Oper.wp Try.prog ⟨some d, Op.build 34 #[(0, .const (.int .i64 x))], ty, pos, af, gd⟩ a w K Q := by
  go_simp
  exact h
set_option maxRecDepth 100000 in
theorem wp_b34d (x y : Int) (h : K (a.put (some d) (.agg #[.int .i64 x, .int .i64 y, .slice none 0 0])) w) : Oper.wp Try.prog ⟨some d, Op.build 34 #[(0, .const (.int .i64 x)), (1, .const (.int .i64 y))], ty, pos, af, gd⟩ a w K Q := by
  go_simp
  exact h
set_option maxRecDepth 100000 in
theorem wp_b36 (x : Int) (h : K (a.put (some d) (.agg #[.int .i64 x, .slice none 0 0])) w) : Oper.wp Try.prog ⟨some d, Op.build 36 #[(0, .const (.int .i64 x))], ty, pos, af, gd⟩ a w K Q := by
  go_simp
  exact h
set_option maxRecDepth 100000 in
theorem wp_cut9 (s0 : Nat) (b o c : Nat) (hc : 17 ≤ c) (hx : a.tmps.getD s0 undef = .slice (some ⟨b, o, none⟩) 17 c)
    (h : K (a.put (some d) (.slice (some ⟨b, o, none⟩) 9 c)) w) : Oper.wp Try.prog ⟨some d, Op.slice 32 (.tmp s0) none (some (.const (.int .i64 9))) none, ty, pos, af, gd⟩ a w K Q := by
  have e1 := slot hx
  have h9 : (9 : Int) ≤ (c : Int) := by omega
  go_simp
  exact h
set_option maxRecDepth 100000 in
theorem wp_len38 (x n c : Nat) (ad : Option Addr) (hx : a.tmps.getD x undef = .slice ad n c)
    (h : K (a.put (some d) (.int .i64 (n : Int))) w) : Oper.wp Try.prog ⟨some d, Op.call { callee := .builtin .len, args := #[.tmp x], argTypes := #[38] }, 3, pos, af, gd⟩ a w K Q := by
  have e1 := slot hx
  go_simp
  exact h
theorem wp_mk (t : TypeId) (x : Value) (v : Value) (w2 : World) (hrun : (Instr.makeSlice t x x).run Try.prog w = .ok v w2) (h : K (a.put (some d) v) w2) : Oper.wp Try.prog ⟨some d, Op.makeSlice t (.const x) (.const x), ty, pos, af, gd⟩ a w K Q := by
  unfold Oper.wp
  simp [execOp, Act.eval, hrun, Result.andThen]
  exact h
set_option maxRecDepth 100000 in
theorem wp_b38 (s0 s1 s2 s3 s4 s5 s6 s7 : Nat) (a0 a1 a2 a3 a4 a5 a6 a7 : Option Addr) (n0 n1 n2 n3 n4 n5 n6 n7 c0 c1 c2 c3 c4 c5 c6 c7 : Nat)
    (h0 : a.tmps.getD s0 undef = .slice a0 n0 c0) (h1 : a.tmps.getD s1 undef = .slice a1 n1 c1) (h2 : a.tmps.getD s2 undef = .slice a2 n2 c2) (h3 : a.tmps.getD s3 undef = .slice a3 n3 c3) (h4 : a.tmps.getD s4 undef = .slice a4 n4 c4) (h5 : a.tmps.getD s5 undef = .slice a5 n5 c5) (h6 : a.tmps.getD s6 undef = .slice a6 n6 c6) (h7 : a.tmps.getD s7 undef = .slice a7 n7 c7)
    (h : K (a.put (some d) (.slice (some ⟨w.heap.size, 0, none⟩) 8 8)) (w.alloc (.cells #[.slice a0 n0 c0, .slice a1 n1 c1, .slice a2 n2 c2, .slice a3 n3 c3, .slice a4 n4 c4, .slice a5 n5 c5, .slice a6 n6 c6, .slice a7 n7 c7] 22))) :
    Oper.wp Try.prog ⟨some d, Op.buildSlice 38 8 #[(0, .tmp s0), (1, .tmp s1), (2, .tmp s2), (3, .tmp s3), (4, .tmp s4), (5, .tmp s5), (6, .tmp s6), (7, .tmp s7)], ty, pos, af, gd⟩ a w K Q := by
  have e0 := slot h0
  have e1 := slot h1
  have e2 := slot h2
  have e3 := slot h3
  have e4 := slot h4
  have e5 := slot h5
  have e6 := slot h6
  have e7 := slot h7
  go_simp
  exact h
end

/-- Eight lists behind b, none of them right. -/
def AllBad (w : World) (b : Nat) : Prop := ∀ k, k < 8 → ∃ a c n L, w.cell? ⟨b, k, none⟩ = some (.slice a n c) ∧ L.length = n ∧ n ≤ 17 ∧ LAt w 0 a L ∧ rightP (L.map CV.flat) = false

theorem AllBad.below {w w2 : World} {b : Nat} (h : AllBad w b) (hb : Below w.heap.size w w2) : AllBad w2 b := fun k hk => by
  obtain ⟨a, c, n, L, h1, h2, h3, h4, h5⟩ := h k hk
  refine ⟨a, c, n, L, ?_, h2, h3, h4.below hb, h5⟩
  rw [hb.cell (p := ⟨b, k, none⟩) (World.block_lt_of_cell? w _ h1)]
  exact h1

theorem all_bad (w : World) (vs : Array Value) (hs : vs.size = 8) (h : ∀ k (hk : k < vs.size), BadC w vs[k]) : AllBad (w.alloc (.cells vs 22)) w.heap.size := fun k hk => by
  obtain ⟨a, c, n, L, e, h1, h2, h3, h4⟩ := h k (by omega)
  refine ⟨a, c, n, L, ?_, h1, h2, h3.below (below_lit _ _), h4⟩
  have hh : (w.alloc (.cells vs 22)).heap[w.heap.size]? = some (.cells vs 22 (0, 0)) := heap_alloc_new w _
  unfold World.cell?
  simp only [hh]
  rw [← e]
  simp [hs, hk]

def pr42 (aK : Option Addr) (cK : Nat) : Nat → Value → World → Prop
  | 0, v, w => BadC w v
  | 1, v, _ => v = .slice aK 17 cK
  | 2, v, _ => v = .slice aK 9 cK
  | 3, v, _ => v = .agg #[.int .i64 1, .int .i64 0, .slice aK 9 cK]
  | 4, v, w => BadC w v
  | 5, v, _ => v = .agg #[.int .i64 0, .int .i64 0, .slice none 0 0]
  | 6, v, w => BadC w v
  | 7, v, _ => v = .agg #[.int .i64 2, .int .i64 0, .slice none 0 0]
  | 8, v, _ => v = .agg #[.int .i64 2, .int .i64 0, .slice none 0 0]
  | 9, v, w => BadC w v
  | 10, v, _ => v = .agg #[.int .i64 1, .int .i64 (-1), .slice none 0 0]
  | 11, v, w => BadC w v
  | 12, v, _ => v = .agg #[.int .i64 3, .slice none 0 0]
  | 13, v, w => ∃ b : Nat, v = .slice (some ⟨b, 0, none⟩) 1 1 ∧ KAt w 0 (some ⟨b, 0, none⟩) [⟨3, none, 0, []⟩]
  | 14, v, w => ∃ b : Nat, v = .agg #[.int .i64 1, .int .i64 3, .slice (some ⟨b, 0, none⟩) 1 1] ∧ KAt w 0 (some ⟨b, 0, none⟩) [⟨3, none, 0, []⟩]
  | 15, v, w => BadC w v
  | 16, v, w => ∃ b : Nat, v = .slice (some ⟨b, 0, none⟩) 9 9 ∧ KAt w 0 (some ⟨b, 0, none⟩) Z9
  | 17, v, w => ∃ b : Nat, v = .agg #[.int .i64 1, .int .i64 0, .slice (some ⟨b, 0, none⟩) 9 9] ∧ KAt w 0 (some ⟨b, 0, none⟩) Z9
  | 18, v, w => BadC w v
  | 19, v, w => BadC w v
  | 20, v, w => ∃ b : Nat, v = .slice (some ⟨b, 0, none⟩) 8 8 ∧ AllBad w b
  | 21, v, _ => v = .int .i64 8
  | 22, v, _ => v = .int .i64 0
  | _, _, _ => True

theorem pr42_on (aK : Option Addr) (cK : Nat) (i : Nat) (v : Value) (w w2 : World) (h : pr42 aK cK i v w) (hb : Below w.heap.size w w2) : pr42 aK cK i v w2 := by
  unfold pr42 at *
  split
  all_goals first
    | exact BadC.below h hb
    | exact h
    | (obtain ⟨b, e, hk⟩ := h; exact ⟨b, e, hk.below hb⟩)
    | trivial

set_option maxRecDepth 1000000 in
set_option maxHeartbeats 8000000 in
theorem num_f (w0 w : World) (aM aK : Option Addr) (cM cK : Nat) (M : List CV) (Kp9 : List KV) (hB : Below w0.heap.size w0 w) (hM : LAt w 0 aM M) (hMf : M.map CV.flat = mj 17) (hK : KAt w 0 aK Kp9) (hKf : Kp9.map KV.flat = kj 17) (hcK : 17 ≤ cK)
    (hE : ∀ (w0 w : World) (_ : Below w0.heap.size w0 w) (c0 c1 c2 c3 c4 c5 c6 c7 c8 c9 c10 c11 c12 c13 c14 c15 c16 c17 c18 c19 c20 c21 c22 c23 c24 c25 c26 c27 c28 c29 c30 c31 c32 c33 c34 c35 c37 c38 c39 c40 c41 c42 c43 c44 c45 c46 c47 c48 c49 c50 c51 c52 c53 c54 c55 c56 c57 c58 c59 c60 c61 c62 c63 c64 c65 c66 c67 c68 c69 c70 c71 c72 c73 c74 c75 c76 c77 c78 c79 c80 c81 c82 c83 c84 c85 c86 c87 c88 c89 c90 c91 c92 c93 c94 c95 c96 c97 c98 c99 c100 c101 c102 c103 c104 c105 c106 c107 c108 c109 c110 c111 c112 c113 c114 c115 c116 c117 c118 c119 c120 c121 c122 c123 c124 c125 c126 c127 c128 c129 c130 c131 c132 c133 c134 c135 c136 c137 c138 c139 c140 c141 c142 c143 c144 c145 c146 c147 c148 c149 c150 c151 c152 c153 c154 c155 c156 c157 c158 c159 c160 c161 c162 c163 c164 c165 c166 c167 c168 c169 c170 c171 c172 c173 c174 c175 c176 c177 c178 c179 c180 c181 c182 c183 c184 c185 c186 c187 c188 c189 c190 c191 c192 c193 c194 c195 c196 c197 c198 c199 c200 c201 c202 c203 c204 c205 c206 c207 c208 c209 c210 c211 c212 c213 c214 c215 c216 c217 c218 c219 c220 c221 c222 c223 c224 c225 c226 c227 c228 c229 c230 c231 c232 c233 c234 c235 c236 c237 c238 c239 c240 c241 c242 c243 c244 c245 c246 c247 c248 c249 c250 c251 c252 c253 c254 c255 c256 c257 c258 c259 c260 c261 c262 c263 c264 c265 c266 c267 c268 c269 c270 c271 c272 c273 c274 c275 c276 c277 c278 c279 c280 c281 c282 c283 c284 c285 c286 c287 c288 c289 c290 c291 c292 c293 c294 c295 c296 c297 c298 c299 c300 c301 c302 c303 c304 c305 c306 c307 c308 c309 c310 c311 c312 c313 c314 c315 c316 c317 c318 c319 c320 c321 c322 c323 c324 c325 c326 c327 c328 c329 c330 c331 c332 c333 c334 c335 c336 c337 c338 c339 c340 c341 c342 c343 c344 c345 c346 c347 c348 c349 c350 c351 c352 c353 c354 c355 c356 c357 c358 c359 c360 c361 c362 c363 c364 c365 c366 c367 c368 c369 c370 c371 c372 c373 c374 c375 c376 c377 c378 c379 c380 c381 c382 c383 c384 c385 c386 c387 c388 c389 c390 c391 c392 c393 c394 c395 c396 c397 c398 c399 c400 c401 c402 c403 c404 c405 c406 c407 c408 c409 c410 c411 c412 c413 c414 c415 c416 c417 c418 c419 c420 c421 c422 c423 c424 c425 c426 c427 c428 c429 c430 c431 c432 c433 c434 c435 c436 c437 c438 c439 c440 c441 c442 c443 c444 c445 c446 c447 c448 c449 c450 c451 c452 c453 c454 c455 c456 c457 c458 c459 c460 c461 c462 c463 c464 c465 c466 c467 : Value), Code.wp Try.prog ((Try.f3.body.bind (restOf 49)).getD .skip) (bodyPost Try.prog Try.f3 fun e w2 => e = .returned (.bool true) ∧ Below w0.heap.size w0 w2) ⟨#[c0, c1, c2, c3, c4, c5, c6, c7, c8, c9, c10, c11, c12, c13, c14, c15, c16, c17, c18, c19, c20, c21, c22, c23, c24, c25, c26, c27, c28, c29, c30, c31, c32, c33, c34, c35, .bool true, c37, c38, c39, c40, c41, c42, c43, c44, c45, c46, c47, c48, c49, c50, c51, c52, c53, c54, c55, c56, c57, c58, c59, c60, c61, c62, c63, c64, c65, c66, c67, c68, c69, c70, c71, c72, c73, c74, c75, c76, c77, c78, c79, c80, c81, c82, c83, c84, c85, c86, c87, c88, c89, c90, c91, c92, c93, c94, c95, c96, c97, c98, c99, c100, c101, c102, c103, c104, c105, c106, c107, c108, c109, c110, c111, c112, c113, c114, c115, c116, c117, c118, c119, c120, c121, c122, c123, c124, c125, c126, c127, c128, c129, c130, c131, c132, c133, c134, c135, c136, c137, c138, c139, c140, c141, c142, c143, c144, c145, c146, c147, c148, c149, c150, c151, c152, c153, c154, c155, c156, c157, c158, c159, c160, c161, c162, c163, c164, c165, c166, c167, c168, c169, c170, c171, c172, c173, c174, c175, c176, c177, c178, c179, c180, c181, c182, c183, c184, c185, c186, c187, c188, c189, c190, c191, c192, c193, c194, c195, c196, c197, c198, c199, c200, c201, c202, c203, c204, c205, c206, c207, c208, c209, c210, c211, c212, c213, c214, c215, c216, c217, c218, c219, c220, c221, c222, c223, c224, c225, c226, c227, c228, c229, c230, c231, c232, c233, c234, c235, c236, c237, c238, c239, c240, c241, c242, c243, c244, c245, c246, c247, c248, c249, c250, c251, c252, c253, c254, c255, c256, c257, c258, c259, c260, c261, c262, c263, c264, c265, c266, c267, c268, c269, c270, c271, c272, c273, c274, c275, c276, c277, c278, c279, c280, c281, c282, c283, c284, c285, c286, c287, c288, c289, c290, c291, c292, c293, c294, c295, c296, c297, c298, c299, c300, c301, c302, c303, c304, c305, c306, c307, c308, c309, c310, c311, c312, c313, c314, c315, c316, c317, c318, c319, c320, c321, c322, c323, c324, c325, c326, c327, c328, c329, c330, c331, c332, c333, c334, c335, c336, c337, c338, c339, c340, c341, c342, c343, c344, c345, c346, c347, c348, c349, c350, c351, c352, c353, c354, c355, c356, c357, c358, c359, c360, c361, c362, c363, c364, c365, c366, c367, c368, c369, c370, c371, c372, c373, c374, c375, c376, c377, c378, c379, c380, c381, c382, c383, c384, c385, c386, c387, c388, c389, c390, c391, c392, c393, c394, c395, c396, c397, c398, c399, c400, c401, c402, c403, c404, c405, c406, c407, c408, c409, c410, c411, c412, c413, c414, c415, c416, c417, c418, c419, c420, c421, c422, c423, c424, c425, c426, c427, c428, c429, c430, c431, c432, c433, c434, c435, c436, c437, c438, c439, c440, c441, c442, c443, c444, c445, c446, c447, c448, c449, c450, c451, c452, c453, c454, c455, c456, c457, c458, c459, c460, c461, c462, c463, c464, c465, c466, c467], []⟩ w) (c0 c1 c2 c3 c4 c5 c6 c7 c8 c9 c10 c11 c12 c13 c14 c15 c16 c17 c18 c19 c20 c21 c22 c23 c24 c25 c26 c27 c28 c29 c30 c31 c32 c33 c34 c35 c37 c38 c39 c40 c41 c42 c45 c46 c47 c48 c49 c50 c51 c52 c53 c54 c55 c56 c57 c58 c59 c60 c61 c62 c63 c64 c65 c66 c67 c68 c69 c70 c71 c72 c73 c74 c75 c76 c77 c78 c79 c80 c81 c82 c83 c84 c85 c86 c87 c88 c89 c90 c91 c92 c93 c94 c95 c96 c97 c98 c99 c100 c101 c102 c103 c104 c105 c106 c107 c108 c109 c110 c111 c112 c113 c114 c115 c116 c117 c118 c119 c120 c121 c122 c123 c124 c125 c126 c127 c128 c129 c130 c131 c132 c133 c134 c135 c136 c137 c138 c139 c140 c141 c142 c143 c144 c145 c146 c147 c148 c149 c150 c151 c152 c153 c154 c155 c156 c157 c158 c159 c160 c161 c162 c163 c164 c165 c166 c167 c168 c169 c170 c171 c172 c173 c174 c175 c176 c177 c178 c179 c180 c181 c182 c183 c184 c185 c186 c187 c188 c189 c190 c191 c192 c193 c194 c195 c196 c197 c198 c199 c200 c201 c202 c203 c204 c205 c206 c207 c208 c209 c210 c211 c212 c213 c214 c215 c216 c217 c218 c219 c220 c221 c222 c223 c224 c225 c226 c227 c228 c229 c230 c231 c232 c233 c234 c235 c236 c237 c238 c239 c240 c241 c242 c243 c244 c245 c246 c247 c248 c249 c250 c251 c252 c253 c254 c255 c256 c257 c258 c259 c260 c261 c262 c263 c264 c265 c266 c267 c268 c269 c270 c271 c272 c273 c274 c275 c276 c277 c278 c279 c280 c281 c282 c283 c284 c285 c286 c287 c288 c289 c290 c291 c292 c293 c294 c295 c296 c297 c298 c299 c300 c301 c302 c303 c304 c305 c306 c307 c308 c309 c310 c311 c312 c313 c314 c315 c316 c317 c318 c319 c320 c321 c322 c323 c324 c325 c326 c327 c328 c329 c330 c331 c332 c333 c334 c335 c336 c337 c338 c339 c340 c341 c342 c343 c344 c345 c346 c347 c348 c349 c350 c351 c352 c353 c354 c355 c356 c357 c358 c359 c360 c361 c362 c363 c364 c365 c366 c367 c368 c369 c370 c371 c372 c373 c374 c375 c376 c377 c378 c379 c380 c381 c382 c383 c384 c385 c386 c387 c388 c389 c390 c391 c392 c393 c394 c395 c396 c397 c398 c399 c400 c401 c402 c403 c404 c405 c406 c407 c408 c409 c410 c411 c412 c413 c414 c415 c416 c417 c418 c419 c420 c421 c422 c423 c424 c425 c426 c427 c428 c429 c430 c431 c432 c433 c434 c435 c436 c437 c438 c439 c440 c441 c442 c443 c444 c445 c446 c447 c448 c449 c450 c451 c452 c453 c454 c455 c456 c457 c458 c459 c460 c461 c462 c463 c464 c465 c466 c467 : Value) :
    Code.wp Try.prog ((Try.f3.body.bind (restOf 42)).getD .skip) (bodyPost Try.prog Try.f3 fun e w2 => e = .returned (.bool true) ∧ Below w0.heap.size w0 w2) ⟨#[c0, c1, c2, c3, c4, c5, c6, c7, c8, c9, c10, c11, c12, c13, c14, c15, c16, c17, c18, c19, c20, c21, c22, c23, c24, c25, c26, c27, c28, c29, c30, c31, c32, c33, c34, c35, .bool true, c37, c38, c39, c40, c41, c42, .slice aM 17 cM, .slice aK 17 cK, c45, c46, c47, c48, c49, c50, c51, c52, c53, c54, c55, c56, c57, c58, c59, c60, c61, c62, c63, c64, c65, c66, c67, c68, c69, c70, c71, c72, c73, c74, c75, c76, c77, c78, c79, c80, c81, c82, c83, c84, c85, c86, c87, c88, c89, c90, c91, c92, c93, c94, c95, c96, c97, c98, c99, c100, c101, c102, c103, c104, c105, c106, c107, c108, c109, c110, c111, c112, c113, c114, c115, c116, c117, c118, c119, c120, c121, c122, c123, c124, c125, c126, c127, c128, c129, c130, c131, c132, c133, c134, c135, c136, c137, c138, c139, c140, c141, c142, c143, c144, c145, c146, c147, c148, c149, c150, c151, c152, c153, c154, c155, c156, c157, c158, c159, c160, c161, c162, c163, c164, c165, c166, c167, c168, c169, c170, c171, c172, c173, c174, c175, c176, c177, c178, c179, c180, c181, c182, c183, c184, c185, c186, c187, c188, c189, c190, c191, c192, c193, c194, c195, c196, c197, c198, c199, c200, c201, c202, c203, c204, c205, c206, c207, c208, c209, c210, c211, c212, c213, c214, c215, c216, c217, c218, c219, c220, c221, c222, c223, c224, c225, c226, c227, c228, c229, c230, c231, c232, c233, c234, c235, c236, c237, c238, c239, c240, c241, c242, c243, c244, c245, c246, c247, c248, c249, c250, c251, c252, c253, c254, c255, c256, c257, c258, c259, c260, c261, c262, c263, c264, c265, c266, c267, c268, c269, c270, c271, c272, c273, c274, c275, c276, c277, c278, c279, c280, c281, c282, c283, c284, c285, c286, c287, c288, c289, c290, c291, c292, c293, c294, c295, c296, c297, c298, c299, c300, c301, c302, c303, c304, c305, c306, c307, c308, c309, c310, c311, c312, c313, c314, c315, c316, c317, c318, c319, c320, c321, c322, c323, c324, c325, c326, c327, c328, c329, c330, c331, c332, c333, c334, c335, c336, c337, c338, c339, c340, c341, c342, c343, c344, c345, c346, c347, c348, c349, c350, c351, c352, c353, c354, c355, c356, c357, c358, c359, c360, c361, c362, c363, c364, c365, c366, c367, c368, c369, c370, c371, c372, c373, c374, c375, c376, c377, c378, c379, c380, c381, c382, c383, c384, c385, c386, c387, c388, c389, c390, c391, c392, c393, c394, c395, c396, c397, c398, c399, c400, c401, c402, c403, c404, c405, c406, c407, c408, c409, c410, c411, c412, c413, c414, c415, c416, c417, c418, c419, c420, c421, c422, c423, c424, c425, c426, c427, c428, c429, c430, c431, c432, c433, c434, c435, c436, c437, c438, c439, c440, c441, c442, c443, c444, c445, c446, c447, c448, c449, c450, c451, c452, c453, c454, c455, c456, c457, c458, c459, c460, c461, c462, c463, c464, c465, c466, c467], []⟩ w := by
  conv => arg 2; whnf
  have hMl : M.length = 17 := by have := congrArg List.length hMf; simpa [mj] using this
  have hKl : Kp9.length = 17 := by have := congrArg List.length hKf; simpa [kj] using this
  have hM17 : BadC w (.slice aM 17 cM) := ⟨aM, cM, 17, M, rfl, hMl, by omega, hM, by rw [hMf]; exact mj_wrong⟩
  have hK9l : (Kp9.take 9).length = 9 := by rw [List.length_take, hKl]; rfl
  have hK9 : KAt w 0 aK (Kp9.take 9) := by
    refine ⟨?_, hK.low, fun k hk => hK.body k (List.take_subset _ _ hk), fun k hk => hK.blow k (List.take_subset _ _ hk), fun k hk => hK.short k (List.take_subset _ _ hk)⟩
    have e : Kp9 = Kp9.take 9 ++ Kp9.drop 9 := (List.take_append_drop 9 Kp9).symm
    have hr := hK.row
    rw [e, List.flatMap_append] at hr
    exact cat_head hr
  have hK9f : rightP [(1, 0, (Kp9.take 9).map KV.flat)] = false := by
    rw [List.map_take, hKf, show (kj 17).take 9 = kj 9 by kernel_rfl]
    exact kj_wrong
  obtain ⟨kb, ko, hkb⟩ := hK.place (by intro e; rw [e] at hKl; simp at hKl)
  subst hkb
  go_wp2_with fail
  refine wp_region_drawn (Rel := fun w w2 => Below w.heap.size w w2) (Pr := pr42 (some ⟨kb, ko, none⟩) cK) (by kernel_rfl) (by kernel_rfl) ⟨rfl, rfl, rfl, Nat.le_refl _, fun _ _ => rfl⟩ bel_tr (pr42_on _ _) ?_ ?_
  · refine ⟨?_, ?_, ?_, ?_, ?_, ?_, ?_, ?_, ?_, ?_, ?_, ?_, ?_, ?_, ?_, ?_, ?_, ?_, ?_, ?_, ?_, ?_, ?_, trivial⟩
    · exact fun a w hR hd hk K hK => yes (want_n rfl) (wp_mv _ rfl _ (get_keep (hk 43 (no_dst (by kernel_rfl))) rfl) (hK _ w (hM17.below hR) (Below.refl _ _)))
    · exact fun a w hR hd hk K hK => yes (want_n rfl) (wp_mv _ rfl _ (get_keep (hk 44 (no_dst (by kernel_rfl))) rfl) (hK _ w rfl (Below.refl _ _)))
    · exact fun a w hR hd hk K hK => yes (want_n rfl) (wp_cut9 279 kb ko cK hcK (hd 1 _ 279 rfl rfl rfl) (hK _ w rfl (Below.refl _ _)))
    · exact fun a w hR hd hk K hK => yes (want_n rfl) (wp_b34b 1 280 _ _ _ (hd 2 _ 280 rfl rfl rfl) (hK _ w rfl (Below.refl _ _)))
    · exact fun a w hR hd hk K hK => yes (want_n rfl) (wp_bc1 281 _ _ _ _ _ (hd 3 _ 281 rfl rfl rfl) (hK _ _ (bad_one w 1 0 _ cK 9 _ hK9l (hK9.below hR) hK9f) (below_lit _ _)))
    · exact fun a w hR hd hk K hK => yes (want_n rfl) (wp_b34c 0 (hK _ w rfl (Below.refl _ _)))
    · exact fun a w hR hd hk K hK => yes (want_n rfl) (wp_bc1 283 _ _ _ _ _ (hd 5 _ 283 rfl rfl rfl) (hK _ _ (bad_one w 0 0 none 0 0 [] rfl (KAt.nil _ _) w_zero) (below_lit _ _)))
    · exact fun a w hR hd hk K hK => yes (want_n rfl) (wp_b34c 2 (hK _ w rfl (Below.refl _ _)))
    · exact fun a w hR hd hk K hK => yes (want_n rfl) (wp_b34c 2 (hK _ w rfl (Below.refl _ _)))
    · exact fun a w hR hd hk K hK => yes (want_n rfl) (wp_bc2 285 286 (hd 7 _ 285 rfl rfl rfl) (hd 8 _ 286 rfl rfl rfl) (hK _ _ (bad_two w) (below_lit _ _)))
    · exact fun a w hR hd hk K hK => yes (want_n rfl) (wp_b34d 1 (-1) (hK _ w rfl (Below.refl _ _)))
    · exact fun a w hR hd hk K hK => yes (want_n rfl) (wp_bc1 288 _ _ _ _ _ (hd 10 _ 288 rfl rfl rfl) (hK _ _ (bad_one w 1 (-1) none 0 0 [] rfl (KAt.nil _ _) w_floor) (below_lit _ _)))
    · exact fun a w hR hd hk K hK => yes (want_n rfl) (wp_b36 3 (hK _ w rfl (Below.refl _ _)))
    · exact fun a w hR hd hk K hK => yes (want_n rfl) (wp_bk1 290 (hd 12 _ 290 rfl rfl rfl) (hK _ _ ⟨_, rfl, k_one w⟩ (below_lit _ _)))
    · intro a w hR hd hk K hK
      obtain ⟨b, e, hkb⟩ := (hd 13 _ 291 rfl rfl rfl)
      exact yes (want_n rfl) (wp_b34 1 3 291 _ _ _ e (hK _ w ⟨b, rfl, hkb⟩ (Below.refl _ _)))
    · intro a w hR hd hk K hK
      obtain ⟨b, e, hkb⟩ := (hd 14 _ 292 rfl rfl rfl)
      exact yes (want_n rfl) (wp_bc1 292 _ _ _ _ _ e (hK _ _ (bad_one w 1 3 _ 1 1 _ rfl hkb w_low) (below_lit _ _)))
    · intro a w hR hd hk K hK
      obtain ⟨w2, hrun, hkz, hbz⟩ := nine_run w
      exact yes (want_n rfl) (wp_mk 32 _ _ w2 hrun (hK _ w2 ⟨_, rfl, hkz⟩ hbz))
    · intro a w hR hd hk K hK
      obtain ⟨b, e, hkb⟩ := (hd 16 _ 294 rfl rfl rfl)
      exact yes (want_n rfl) (wp_b34b 1 294 _ _ _ e (hK _ w ⟨b, rfl, hkb⟩ (Below.refl _ _)))
    · intro a w hR hd hk K hK
      obtain ⟨b, e, hkb⟩ := (hd 17 _ 295 rfl rfl rfl)
      exact yes (want_n rfl) (wp_bc1 295 _ _ _ _ _ e (hK _ _ (bad_one w 1 0 _ 9 9 _ rfl hkb w_nine) (below_lit _ _)))
    · intro a w hR hd hk K hK
      obtain ⟨w2, hrun, hbd, hbz⟩ := many_run w
      exact yes (want_n rfl) (wp_mk 22 _ _ w2 hrun (hK _ w2 hbd hbz))
    · intro a w hR hd hk K hK
      have H0 : BadC w _ := (hd 0 _ 278 rfl rfl rfl)
      obtain ⟨a0, c0, n0, L0, E0, P0⟩ := id H0
      rw [E0] at H0
      have H1 : BadC w _ := (hd 4 _ 282 rfl rfl rfl)
      obtain ⟨a1, c1, n1, L1, E1, P1⟩ := id H1
      rw [E1] at H1
      have H2 : BadC w _ := (hd 6 _ 284 rfl rfl rfl)
      obtain ⟨a2, c2, n2, L2, E2, P2⟩ := id H2
      rw [E2] at H2
      have H3 : BadC w _ := (hd 9 _ 287 rfl rfl rfl)
      obtain ⟨a3, c3, n3, L3, E3, P3⟩ := id H3
      rw [E3] at H3
      have H4 : BadC w _ := (hd 11 _ 289 rfl rfl rfl)
      obtain ⟨a4, c4, n4, L4, E4, P4⟩ := id H4
      rw [E4] at H4
      have H5 : BadC w _ := (hd 15 _ 293 rfl rfl rfl)
      obtain ⟨a5, c5, n5, L5, E5, P5⟩ := id H5
      rw [E5] at H5
      have H6 : BadC w _ := (hd 18 _ 296 rfl rfl rfl)
      obtain ⟨a6, c6, n6, L6, E6, P6⟩ := id H6
      rw [E6] at H6
      have H7 : BadC w _ := (hd 19 _ 297 rfl rfl rfl)
      obtain ⟨a7, c7, n7, L7, E7, P7⟩ := id H7
      rw [E7] at H7
      have hall := all_bad w #[.slice a0 n0 c0, .slice a1 n1 c1, .slice a2 n2 c2, .slice a3 n3 c3, .slice a4 n4 c4, .slice a5 n5 c5, .slice a6 n6 c6, .slice a7 n7 c7] rfl (by
        intro k hk8
        have h8 : k = 0 ∨ k = 1 ∨ k = 2 ∨ k = 3 ∨ k = 4 ∨ k = 5 ∨ k = 6 ∨ k = 7 := by
          have : k < 8 := hk8
          omega
        rcases h8 with rfl | rfl | rfl | rfl | rfl | rfl | rfl | rfl
        · exact H0
        · exact H1
        · exact H2
        · exact H3
        · exact H4
        · exact H5
        · exact H6
        · exact H7)
      exact yes (want_n rfl) (wp_b38 278 282 284 287 289 293 296 297 a0 a1 a2 a3 a4 a5 a6 a7 n0 n1 n2 n3 n4 n5 n6 n7 c0 c1 c2 c3 c4 c5 c6 c7 E0 E1 E2 E3 E4 E5 E6 E7 (hK _ _ ⟨_, rfl, hall⟩ (below_lit _ _)))
    · intro a w hR hd hk K hK
      obtain ⟨b, e, hab⟩ := (hd 20 _ 298 rfl rfl rfl)
      exact yes (want_n rfl) (wp_len38 298 8 8 _ e (hK _ w rfl (Below.refl _ _)))
    · exact fun a w hR hd hk K hK => yes (want_n rfl) (wp_mv _ rfl _ rfl (hK _ w rfl (Below.refl _ _)))
  · intro a w1 hdf hsz hkp hval hRw
    obtain ⟨f, hf⟩ : ∃ f, f = fun d => a.tmps.getD d undef := ⟨_, rfl⟩
    obtain ⟨b, h298, hab⟩ : ∃ b : Nat, f 298 = .slice (some ⟨b, 0, none⟩) 8 8 ∧ AllBad w1 b := by rw [hf]; exact hval 20 _ 298 rfl rfl
    have h299 : f 299 = .int .i64 8 := by rw [hf]; exact hval 21 _ 299 rfl rfl
    have h300 : f 300 = .int .i64 0 := by rw [hf]; exact hval 22 _ 300 rfl rfl
    have hfa := act_filled hdf hsz hkp
    rw [← hf] at hfa
    rw [hfa]
    clear hdf hsz hkp hval hfa hf
    clear a
    simp only [fillAll, List.set_cons_zero, List.set_cons_succ, h298, h299, h300]
    have hB1 := bnext hB hRw
    clear hRw hM17 hK9 hK9f hK9l hM hMf hK hKf hB
    go_wp2_with fail
    rename_i KK hKK
    replace hKK := hid hKK
    replace hab := hid hab
    go_loopw [300] (fun i wr => ∃ j : Nat, j ≤ 8 ∧ i = .int .i64 (j : Int) ∧ Below w1.heap.size w1 wr) (fun i _ => 8 - (intOf i).toNat)
    case atStart => exact ⟨0, by omega, rfl, Below.refl _ _⟩
    case round =>
      obtain ⟨j, hj, rfl, hBl⟩ := hrel
      by_cases hlt : j < 8
      · obtain ⟨a, c, n, L, hc, hl, hn, hA, hr⟩ := (hab.out.below hBl) j hlt
        have kl := look_of (L.map CV.flat) 1 1 0 0 2 [] [] 0 0 (look_wrong _ _ _ _ hr) rfl rfl a n c 0 L wr rfl hl hA (by omega)
        replace hl := hid hl
        replace hr := hid hr
        go_wp2_with fail
        refine kl.mono ?_
        clear kl
        rintro e w2 ⟨a2, c2', L2, ra2, rc2, rfl, f2, l2, h2, -, b2⟩
        dsimp only
        have kr := right_any a n c 0 L w2 hl.out (hA.below b2) (by omega)
        rw [hr.out] at kr
        clear f2 l2 h2 hc
        go_wp2_with fail
        refine kr.mono ?_
        clear kr
        rintro e w3 ⟨rfl, b3⟩
        dsimp only
        have B3 := bnext hBl (bnext b2 b3)
        clear b2 b3
        go_wp2_with fail
        go_roundw
        case rel => exact ⟨j + 1, by omega, by go_num, B3⟩
        case measure => simp [intOf]; omega
      · obtain rfl : j = 8 := by omega
        have hBf := bnext hB1 hBl
        go_wp2_with fail
        refine hKK.out _ _ ?_
        exact hE w0 wr hBf _ _ _ _ _ _ _ _ _ _ _ _ _ _ _ _ _ _ _ _ _ _ _ _ _ _ _ _ _ _ _ _ _ _ _ _ _ _ _ _ _ _ _ _ _ _ _ _ _ _ _ _ _ _ _ _ _ _ _ _ _ _ _ _ _ _ _ _ _ _ _ _ _ _ _ _ _ _ _ _ _ _ _ _ _ _ _ _ _ _ _ _ _ _ _ _ _ _ _ _ _ _ _ _ _ _ _ _ _ _ _ _ _ _ _ _ _ _ _ _ _ _ _ _ _ _ _ _ _ _ _ _ _ _ _ _ _ _ _ _ _ _ _ _ _ _ _ _ _ _ _ _ _ _ _ _ _ _ _ _ _ _ _ _ _ _ _ _ _ _ _ _ _ _ _ _ _ _ _ _ _ _ _ _ _ _ _ _ _ _ _ _ _ _ _ _ _ _ _ _ _ _ _ _ _ _ _ _ _ _ _ _ _ _ _ _ _ _ _ _ _ _ _ _ _ _ _ _ _ _ _ _ _ _ _ _ _ _ _ _ _ _ _ _ _ _ _ _ _ _ _ _ _ _ _ _ _ _ _ _ _ _ _ _ _ _ _ _ _ _ _ _ _ _ _ _ _ _ _ _ _ _ _ _ _ _ _ _ _ _ _ _ _ _ _ _ _ _ _ _ _ _ _ _ _ _ _ _ _ _ _ _ _ _ _ _ _ _ _ _ _ _ _ _ _ _ _ _ _ _ _ _ _ _ _ _ _ _ _ _ _ _ _ _ _ _ _ _ _ _ _ _ _ _ _ _ _ _ _ _ _ _ _ _ _ _ _ _ _ _ _ _ _ _ _ _ _ _ _ _ _ _ _ _ _ _ _ _ _ _ _ _ _ _ _ _ _ _ _ _ _ _ _ _ _ _ _ _ _ _ _ _ _ _ _ _ _ _ _ _ _ _ _ _ _ _ _ _ _ _ _ _ _ _ _ _ _ _ _ _ _ _ _ _ _ _ _ _ _ _ _ _ _ _ _ _ _ _ _ _ _ _ _ _ _ _ _

end Go.Proofs.Ythjggjjocfbjcaa
