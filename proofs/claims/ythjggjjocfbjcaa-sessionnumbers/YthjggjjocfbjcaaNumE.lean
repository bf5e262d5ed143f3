/- SessionNumbers from its region 49 to its region 63. -/
import Derived.Test.YthjggjjocfbjcaaNumD
namespace Go.Proofs.Ythjggjjocfbjcaa
open Go.RowKit

/-- The asker P in block g. -/
structure AR (w : World) (g : Nat) (id next acked : Int) (n : Nat) (a : Option Addr) (c : Nat) (ks : List KV) (L : List PK) : Prop where
  blk : ABlk w g (.int .i64 id) (.int .i64 next) (.int .i64 acked) (.slice a n c)
  flat : ks.map KV.flat = L
  len : ks.length = n
  kat : KAt w (g + 1) a ks

theorem AR.below {w w2 : World} {g n c : Nat} {id next acked : Int} {a : Option Addr} {ks : List KV} {L : List PK} (h : AR w g id next acked n a c ks L) (hb : Below w.heap.size w w2) : AR w2 g id next acked n a c ks L :=
  ⟨h.blk.below hb, h.flat, h.len, h.kat.below hb⟩

/-- Another asker is stored over it. -/
theorem AR.store {w : World} {g n c n2 c2 : Nat} {id next acked id2 next2 acked2 : Int} {a a2 : Option Addr} {ks ks2 : List KV} {L L2 : List PK} (h : AR w g id next acked n a c ks L)
    (hf : ks2.map KV.flat = L2) (hl : ks2.length = n2) (lo : Nat) (hk : KAt w lo a2 ks2) (hlo : g < lo) :
    AR ((((w.setCell ⟨g, 0, none⟩ (.int .i64 id2)).setCell ⟨g, 1, none⟩ (.int .i64 next2)).setCell ⟨g, 2, none⟩ (.int .i64 acked2)).setCell ⟨g, 3, none⟩ (.slice a2 n2 c2)) g id2 next2 acked2 n2 a2 c2 ks2 L2 := by
  refine ⟨h.blk.set _ _ _ _, hf, hl, ?_⟩
  have hkp : Kp (fun k => k = g) w ((((w.setCell ⟨g, 0, none⟩ (.int .i64 id2)).setCell ⟨g, 1, none⟩ (.int .i64 next2)).setCell ⟨g, 2, none⟩ (.int .i64 acked2)).setCell ⟨g, 3, none⟩ (.slice a2 n2 c2)) :=
    Kp.setCell (S := fun k => k = g) (Kp.setCell (S := fun k => k = g) (Kp.setCell (S := fun k => k = g) (Kp.setCell (S := fun k => k = g) (Kp.refl _ _) (p := ⟨g, 0, none⟩) rfl _) (p := ⟨g, 1, none⟩) rfl _) (p := ⟨g, 2, none⟩) rfl _) (p := ⟨g, 3, none⟩) rfl _
  exact (hk.kp hkp (fun k e => by omega)).le hlo

/-- 'make([]byte, 65537)', its run told. -/
theorem zeros_run (w : World) : ∃ w2 Z, (Instr.makeSlice 24 (.int .i64 65537) (.int .i64 65537)).run Try.prog w = .ok (.slice (some ⟨w.heap.size, 0, none⟩) 65537 65537) w2 ∧ Z.length = 65537 ∧ Row w2 w.heap.size Z ∧ Below w.heap.size w w2 := by
  obtain ⟨i0, hi, hz0, hz1, hz2⟩ := info_parts info5
  obtain ⟨w2, hrun, r1, r2⟩ := run_make_full (P := Try.prog) w w.heap.size 24 5 i0 _ 1 Try.underlying24 hi hz0 hz1 .i64 .i64 65537 (by rw [hz2]; omega) (by unfold maxLen; omega) (Nat.le_refl _)
  exact ⟨w2, _, hrun, List.length_replicate, row_made r1, (Below.refl _ _).grown r2 (Nat.le_refl _) (fun k hk => by cases hk)⟩

theorem begin_five : beginP 5 = ((5, 1, 0, []), 0) := by kernel_rfl
theorem kj_len (n : Nat) : (kj n).length = n := by simp [kj]
theorem ask_up (j : Nat) (h : j < 8) : askP (5, (j : Int) + 1, 0, kj j) [] = ((5, (j : Int) + 1 + 1, 0, kj (j + 1)), (j : Int) + 1, 0) := aj_ask ⟨j, h⟩
theorem a8_busy : askP (5, 9, 0, kj 8) [] = ((0, 0, 0, []), 0, 7) := aj_busy
def bL : List PK := (kj 8).filter fun k => !(k.1 == 2)
theorem bL_len : bL.length = 7 := by decide +kernel
theorem a8_take : takeP (5, 9, 0, kj 8) 2 = ((5, 9, 0, bL), true, 0) := aj_take
theorem b_busy : askP (5, 9, 0, bL) [] = ((0, 0, 0, []), 0, 7) := bj_busy
theorem b_take : takeP (5, 9, 0, bL) 2 = ((5, 9, 0, bL), false, 0) := bj_take
def eL : List PK := (kj 8).drop 2
theorem eL_len : eL.length = 6 := by decide +kernel
theorem b_first : takeP (5, 9, 0, bL) 1 = ((5, 9, 2, eL), true, 0) := bj_first
theorem e_next : ∃ id next acked L, askP (5, 9, 2, eL) [] = ((id, next, acked, L), 9, 0) := by
  have h := ej_next
  obtain ⟨⟨id, next, acked, L⟩, hq⟩ : ∃ q, (askP ej []).1 = q := ⟨_, rfl⟩
  refine ⟨id, next, acked, L, ?_⟩
  show askP ej [] = _
  rw [← hq, ← h]
theorem e_right : rightA (5, 9, 2, eL) = true := ej_right

set_option maxRecDepth 1000000 in
set_option maxHeartbeats 8000000 in
theorem num_e (w0 w : World) (hB : Below w0.heap.size w0 w) (c0 c1 c2 c3 c4 c5 c6 c7 c8 c9 c10 c11 c12 c13 c14 c15 c16 c17 c18 c19 c20 c21 c22 c23 c24 c25 c26 c27 c28 c29 c30 c31 c32 c33 c34 c35 c37 c38 c39 c40 c41 c42 c43 c44 c45 c46 c47 c48 c49 c50 c51 c52 c53 c54 c55 c56 c57 c58 c59 c60 c61 c62 c63 c64 c65 c66 c67 c68 c69 c70 c71 c72 c73 c74 c75 c76 c77 c78 c79 c80 c81 c82 c83 c84 c85 c86 c87 c88 c89 c90 c91 c92 c93 c94 c95 c96 c97 c98 c99 c100 c101 c102 c103 c104 c105 c106 c107 c108 c109 c110 c111 c112 c113 c114 c115 c116 c117 c118 c119 c120 c121 c122 c123 c124 c125 c126 c127 c128 c129 c130 c131 c132 c133 c134 c135 c136 c137 c138 c139 c140 c141 c142 c143 c144 c145 c146 c147 c148 c149 c150 c151 c152 c153 c154 c155 c156 c157 c158 c159 c160 c161 c162 c163 c164 c165 c166 c167 c168 c169 c170 c171 c172 c173 c174 c175 c176 c177 c178 c179 c180 c181 c182 c183 c184 c185 c186 c187 c188 c189 c190 c191 c192 c193 c194 c195 c196 c197 c198 c199 c200 c201 c202 c203 c204 c205 c206 c207 c208 c209 c210 c211 c212 c213 c214 c215 c216 c217 c218 c219 c220 c221 c222 c223 c224 c225 c226 c227 c228 c229 c230 c231 c232 c233 c234 c235 c236 c237 c238 c239 c240 c241 c242 c243 c244 c245 c246 c247 c248 c249 c250 c251 c252 c253 c254 c255 c256 c257 c258 c259 c260 c261 c262 c263 c264 c265 c266 c267 c268 c269 c270 c271 c272 c273 c274 c275 c276 c277 c278 c279 c280 c281 c282 c283 c284 c285 c286 c287 c288 c289 c290 c291 c292 c293 c294 c295 c296 c297 c298 c299 c300 c301 c302 c303 c304 c305 c306 c307 c308 c309 c310 c311 c312 c313 c314 c315 c316 c317 c318 c319 c320 c321 c322 c323 c324 c325 c326 c327 c328 c329 c330 c331 c332 c333 c334 c335 c336 c337 c338 c339 c340 c341 c342 c343 c344 c345 c346 c347 c348 c349 c350 c351 c352 c353 c354 c355 c356 c357 c358 c359 c360 c361 c362 c363 c364 c365 c366 c367 c368 c369 c370 c371 c372 c373 c374 c375 c376 c377 c378 c379 c380 c381 c382 c383 c384 c385 c386 c387 c388 c389 c390 c391 c392 c393 c394 c395 c396 c397 c398 c399 c400 c401 c402 c403 c404 c405 c406 c407 c408 c409 c410 c411 c412 c413 c414 c415 c416 c417 c418 c419 c420 c421 c422 c423 c424 c425 c426 c427 c428 c429 c430 c431 c432 c433 c434 c435 c436 c437 c438 c439 c440 c441 c442 c443 c444 c445 c446 c447 c448 c449 c450 c451 c452 c453 c454 c455 c456 c457 c458 c459 c460 c461 c462 c463 c464 c465 c466 c467 : Value) :
    Code.wp Try.prog ((Try.f3.body.bind (restOf 49)).getD .skip) (bodyPost Try.prog Try.f3 fun e w2 => e = .returned (.bool true) ∧ Below w0.heap.size w0 w2) ⟨#[c0, c1, c2, c3, c4, c5, c6, c7, c8, c9, c10, c11, c12, c13, c14, c15, c16, c17, c18, c19, c20, c21, c22, c23, c24, c25, c26, c27, c28, c29, c30, c31, c32, c33, c34, c35, .bool true, c37, c38, c39, c40, c41, c42, c43, c44, c45, c46, c47, c48, c49, c50, c51, c52, c53, c54, c55, c56, c57, c58, c59, c60, c61, c62, c63, c64, c65, c66, c67, c68, c69, c70, c71, c72, c73, c74, c75, c76, c77, c78, c79, c80, c81, c82, c83, c84, c85, c86, c87, c88, c89, c90, c91, c92, c93, c94, c95, c96, c97, c98, c99, c100, c101, c102, c103, c104, c105, c106, c107, c108, c109, c110, c111, c112, c113, c114, c115, c116, c117, c118, c119, c120, c121, c122, c123, c124, c125, c126, c127, c128, c129, c130, c131, c132, c133, c134, c135, c136, c137, c138, c139, c140, c141, c142, c143, c144, c145, c146, c147, c148, c149, c150, c151, c152, c153, c154, c155, c156, c157, c158, c159, c160, c161, c162, c163, c164, c165, c166, c167, c168, c169, c170, c171, c172, c173, c174, c175, c176, c177, c178, c179, c180, c181, c182, c183, c184, c185, c186, c187, c188, c189, c190, c191, c192, c193, c194, c195, c196, c197, c198, c199, c200, c201, c202, c203, c204, c205, c206, c207, c208, c209, c210, c211, c212, c213, c214, c215, c216, c217, c218, c219, c220, c221, c222, c223, c224, c225, c226, c227, c228, c229, c230, c231, c232, c233, c234, c235, c236, c237, c238, c239, c240, c241, c242, c243, c244, c245, c246, c247, c248, c249, c250, c251, c252, c253, c254, c255, c256, c257, c258, c259, c260, c261, c262, c263, c264, c265, c266, c267, c268, c269, c270, c271, c272, c273, c274, c275, c276, c277, c278, c279, c280, c281, c282, c283, c284, c285, c286, c287, c288, c289, c290, c291, c292, c293, c294, c295, c296, c297, c298, c299, c300, c301, c302, c303, c304, c305, c306, c307, c308, c309, c310, c311, c312, c313, c314, c315, c316, c317, c318, c319, c320, c321, c322, c323, c324, c325, c326, c327, c328, c329, c330, c331, c332, c333, c334, c335, c336, c337, c338, c339, c340, c341, c342, c343, c344, c345, c346, c347, c348, c349, c350, c351, c352, c353, c354, c355, c356, c357, c358, c359, c360, c361, c362, c363, c364, c365, c366, c367, c368, c369, c370, c371, c372, c373, c374, c375, c376, c377, c378, c379, c380, c381, c382, c383, c384, c385, c386, c387, c388, c389, c390, c391, c392, c393, c394, c395, c396, c397, c398, c399, c400, c401, c402, c403, c404, c405, c406, c407, c408, c409, c410, c411, c412, c413, c414, c415, c416, c417, c418, c419, c420, c421, c422, c423, c424, c425, c426, c427, c428, c429, c430, c431, c432, c433, c434, c435, c436, c437, c438, c439, c440, c441, c442, c443, c444, c445, c446, c447, c448, c449, c450, c451, c452, c453, c454, c455, c456, c457, c458, c459, c460, c461, c462, c463, c464, c465, c466, c467], []⟩ w := by
  conv => arg 2; whnf
  have k1 := begin_any 5 w
  rw [begin_five] at k1
  go_wp2_with fail
  refine k1.mono ?_
  clear k1
  rintro e w1 ⟨rfl, hb1⟩
  replace hB := bnext hB hb1
  have hge : w0.heap.size ≤ w1.heap.size := hB.size
  have bl := below_lit w1 (.cells #[.int .i64 5, .int .i64 1, .int .i64 0, .slice none 0 0] 41)
  have hA : AR (w1.alloc (.cells #[.int .i64 5, .int .i64 1, .int .i64 0, .slice none 0 0] 41)) w1.heap.size 5 1 0 0 none 0 [] [] := ⟨ABlk.new w1 _ _ _ _, rfl, rfl, KAt.nil _ _⟩
  replace hB := bnext hB bl
  clear hb1 bl
  replace hA := hid hA
  go_wp2_with fail
  generalize w1.alloc (.cells #[.int .i64 5, .int .i64 1, .int .i64 0, .slice none 0 0] 41) = w2 at hA hB ⊢
  generalize w1.heap.size = g at hge hA ⊢
  clear w1
  go_loopw [54] (fun i wr => ∃ (j : Nat) (a : Option Addr) (c : Nat) (ks : List KV), j ≤ 8 ∧ i = .int .i64 ((j : Int) + 1) ∧ Hid (AR wr g 5 ((j : Int) + 1) 0 j a c ks (kj j)) ∧ Below w0.heap.size w0 wr) (fun i _ => 9 - (intOf i).toNat)
  case atStart => exact ⟨0, none, 0, [], by omega, rfl, hA, hB⟩
  case round =>
    clear hA hB
    obtain ⟨j, a, c, ks, hj, rfl, hA, hB⟩ := hrel
    by_cases hlt : j < 8
    · have d1 : decide ((j : Int) + 1 ≤ 8) = true := decide_eq_true (by omega)
      have q := hA.out.blk
      have x0 := q.cell0
      have x1 := q.cell1
      have x2 := q.cell2
      have x3 := q.cell3
      have k2 := ask_of (ask_up j hlt) (kj_len (j + 1)) a j c (g + 1) ks none 0 0 wr hA.out.flat hA.out.len hA.out.kat (by omega) (by omega) rfl (by omega) (at_nil _ _)
      replace q := hid q
      go_wp2_with fail
      refine k2.mono ?_
      clear k2 x0 x1 x2 x3 q
      rintro e w3 ⟨a3, c3', ks3, rfl, f3, l3, h3, hb3⟩
      have hlo : g < wr.heap.size := hA.out.blk.lt
      have hA3 := hA.out.below hb3
      replace hB := bnext hB hb3
      have bl := below_lit w3 (.cells #[.int .i64 5, .int .i64 ((j : Int) + 1 + 1), .int .i64 0, .slice a3 (j + 1) c3'] 41)
      have q5 := ABlk.new w3 (.int .i64 5) (.int .i64 ((j : Int) + 1 + 1)) (.int .i64 0) (.slice a3 (j + 1) c3')
      replace hA3 := hA3.below bl
      replace hB := bnext hB bl
      replace h3 := h3.below bl
      have y0 := q5.cell0
      have y1 := q5.cell1
      have y2 := q5.cell2
      have y3 := q5.cell3
      have z0 := hA3.blk.cell0
      have z1 := hA3.blk.cell1
      have z2 := hA3.blk.cell2
      have z3 := hA3.blk.cell3
      have u0 := hA3.blk.free 0
      have u1 := hA3.blk.free 1
      have u2 := hA3.blk.free 2
      have u3 := hA3.blk.free 3
      have hA4 := hA3.store (id2 := 5) (next2 := (j : Int) + 1 + 1) (acked2 := 0) (c2 := c3') f3 l3 wr.heap.size h3 hlo
      have hB4 := below_set4 hB g hge (.int .i64 5) (.int .i64 ((j : Int) + 1 + 1)) (.int .i64 0) (.slice a3 (j + 1) c3')
      replace hA3 := hid hA3
      replace hA4 := hid hA4
      replace q5 := hid q5
      replace f3 := hid f3
      replace l3 := hid l3
      clear hb3
      go_wp2_with fail
      exact ⟨⟨j + 1, a3, c3', ks3, by omega, by simp, by simpa using hA4, hB4⟩, by simp [intOf]; omega⟩
    · obtain rfl : j = 8 := by omega
      have d1 : decide ((8 : Int) + 1 ≤ 8) = false := rfl
      replace hA : AR wr g 5 9 0 8 a c ks (kj 8) := hA.out
      have x0 := hA.blk.cell0
      have x1 := hA.blk.cell1
      have x2 := hA.blk.cell2
      have x3 := hA.blk.cell3
      replace hA := hid hA
      go_wp2_with fail
      replace hA := hA.out
      clear x0 x1 x2 x3
      have kk := ask_of a8_busy rfl a 8 c (g + 1) ks none 0 0 wr hA.flat hA.len hA.kat (by omega) (by omega) rfl (by omega) (at_nil _ _)
      refine kk.mono ?_
      clear kk
      rintro e y1 ⟨p1, q1, r1, rfl, f1, l1, h1, b1⟩
      have hlo1 : g < wr.heap.size := hA.blk.lt
      replace hA := hA.below b1
      replace hB := bnext hB b1
      have bl := below_lit y1 (.cells #[.int .i64 0, .int .i64 0, .int .i64 0, .slice p1 0 q1] 41)
      replace hA := hA.below bl
      replace hB := bnext hB bl
      clear bl f1 l1 h1 b1
      have x0 := hA.blk.cell0
      have x1 := hA.blk.cell1
      have x2 := hA.blk.cell2
      have x3 := hA.blk.cell3
      replace hA := hid hA
      go_wp2_with fail
      generalize y1.alloc (.cells #[.int .i64 0, .int .i64 0, .int .i64 0, .slice p1 0 q1] 41) = v1 at hA hB x0 x1 x2 x3 ⊢
      replace hA := hA.out
      clear x0 x1 x2 x3
      have kk := take_of a8_take bL_len a 8 c (g + 1) ks v1 hA.flat hA.len hA.kat (by omega) (by omega)
      refine kk.mono ?_
      clear kk
      rintro e y2 ⟨p2, q2, r2, rfl, f2, l2, h2, b2⟩
      have hlo2 : g < v1.heap.size := hA.blk.lt
      replace hA := hA.below b2
      replace hB := bnext hB b2
      have z0 := hA.blk.cell0
      have z1 := hA.blk.cell1
      have z2 := hA.blk.cell2
      have z3 := hA.blk.cell3
      have u0 := hA.blk.free 0
      have u1 := hA.blk.free 1
      have u2 := hA.blk.free 2
      have u3 := hA.blk.free 3
      have hA2 := hA.store (id2 := 5) (next2 := 9) (acked2 := 0) (c2 := q2) f2 l2 v1.heap.size h2 hlo2
      replace hB := below_set4 hB g hge (.int .i64 5) (.int .i64 9) (.int .i64 0) (.slice p2 7 q2)
      have x0 := hA2.blk.cell0
      have x1 := hA2.blk.cell1
      have x2 := hA2.blk.cell2
      have x3 := hA2.blk.cell3
      replace hA := hid hA
      replace hA2 := hid hA2
      clear f2 l2 h2 b2
      go_wp2_with fail
      clear x0 x1 x2 x3 z0 z1 z2 z3 u0 u1 u2 u3 hA
      generalize (((y2.setCell ⟨g, 0, none⟩ (.int .i64 5)).setCell ⟨g, 1, none⟩ (.int .i64 9)).setCell ⟨g, 2, none⟩ (.int .i64 0)).setCell ⟨g, 3, none⟩ (.slice p2 7 q2) = v2 at hA2 hB ⊢
      replace hA2 := hA2.out
      have hA := hA2
      clear hA2
      have kk := ask_of b_busy rfl p2 7 q2 (g + 1) r2 none 0 0 v2 hA.flat hA.len hA.kat (by omega) (by omega) rfl (by omega) (at_nil _ _)
      refine kk.mono ?_
      clear kk
      rintro e y3 ⟨p3, q3, r3, rfl, f3, l3, h3, b3⟩
      have hlo3 : g < v2.heap.size := hA.blk.lt
      replace hA := hA.below b3
      replace hB := bnext hB b3
      have bl := below_lit y3 (.cells #[.int .i64 0, .int .i64 0, .int .i64 0, .slice p3 0 q3] 41)
      replace hA := hA.below bl
      replace hB := bnext hB bl
      clear bl f3 l3 h3 b3
      have x0 := hA.blk.cell0
      have x1 := hA.blk.cell1
      have x2 := hA.blk.cell2
      have x3 := hA.blk.cell3
      replace hA := hid hA
      go_wp2_with fail
      generalize y3.alloc (.cells #[.int .i64 0, .int .i64 0, .int .i64 0, .slice p3 0 q3] 41) = v3 at hA hB x0 x1 x2 x3 ⊢
      replace hA := hA.out
      clear x0 x1 x2 x3
      have kk := take_of b_take bL_len p2 7 q2 (g + 1) r2 v3 hA.flat hA.len hA.kat (by omega) (by omega)
      refine kk.mono ?_
      clear kk
      rintro e y4 ⟨p4, q4, r4, rfl, f4, l4, h4, b4⟩
      have hlo4 : g < v3.heap.size := hA.blk.lt
      replace hA := hA.below b4
      replace hB := bnext hB b4
      have bl := below_lit y4 (.cells #[.int .i64 5, .int .i64 9, .int .i64 0, .slice p4 7 q4] 41)
      replace hA := hA.below bl
      replace hB := bnext hB bl
      clear bl f4 l4 h4 b4
      have x0 := hA.blk.cell0
      have x1 := hA.blk.cell1
      have x2 := hA.blk.cell2
      have x3 := hA.blk.cell3
      replace hA := hid hA
      go_wp2_with fail
      generalize y4.alloc (.cells #[.int .i64 5, .int .i64 9, .int .i64 0, .slice p4 7 q4] 41) = v4 at hA hB x0 x1 x2 x3 ⊢
      replace hA := hA.out
      clear x0 x1 x2 x3
      have kk := take_of b_first eL_len p2 7 q2 (g + 1) r2 v4 hA.flat hA.len hA.kat (by omega) (by omega)
      refine kk.mono ?_
      clear kk
      rintro e y5 ⟨p5, q5, r5, rfl, f5, l5, h5, b5⟩
      have hlo5 : g < v4.heap.size := hA.blk.lt
      replace hA := hA.below b5
      replace hB := bnext hB b5
      have z0 := hA.blk.cell0
      have z1 := hA.blk.cell1
      have z2 := hA.blk.cell2
      have z3 := hA.blk.cell3
      have u0 := hA.blk.free 0
      have u1 := hA.blk.free 1
      have u2 := hA.blk.free 2
      have u3 := hA.blk.free 3
      have hA2 := hA.store (id2 := 5) (next2 := 9) (acked2 := 2) (c2 := q5) f5 l5 v4.heap.size h5 hlo5
      replace hB := below_set4 hB g hge (.int .i64 5) (.int .i64 9) (.int .i64 2) (.slice p5 6 q5)
      have x0 := hA2.blk.cell0
      have x1 := hA2.blk.cell1
      have x2 := hA2.blk.cell2
      have x3 := hA2.blk.cell3
      replace hA := hid hA
      replace hA2 := hid hA2
      clear f5 l5 h5 b5
      go_wp2_with fail
      clear x0 x1 x2 x3 z0 z1 z2 z3 u0 u1 u2 u3 hA
      generalize (((y5.setCell ⟨g, 0, none⟩ (.int .i64 5)).setCell ⟨g, 1, none⟩ (.int .i64 9)).setCell ⟨g, 2, none⟩ (.int .i64 2)).setCell ⟨g, 3, none⟩ (.slice p5 6 q5) = v5 at hA2 hB ⊢
      replace hA2 := hA2.out
      have hA := hA2
      clear hA2
      obtain ⟨id6, nx6, ak6, L6, he6⟩ := e_next
      have kk := ask_of he6 rfl p5 6 q5 (g + 1) r5 none 0 0 v5 hA.flat hA.len hA.kat (by omega) (by omega) rfl (by omega) (at_nil _ _)
      refine kk.mono ?_
      clear kk
      rintro e y6 ⟨p6, q6, r6, rfl, f6, l6, h6, b6⟩
      have hlo6 : g < v5.heap.size := hA.blk.lt
      replace hA := hA.below b6
      replace hB := bnext hB b6
      have bl := below_lit y6 (.cells #[.int .i64 id6, .int .i64 nx6, .int .i64 ak6, .slice p6 L6.length q6] 41)
      replace hA := hA.below bl
      replace hB := bnext hB bl
      clear bl f6 l6 h6 b6
      have x0 := hA.blk.cell0
      have x1 := hA.blk.cell1
      have x2 := hA.blk.cell2
      have x3 := hA.blk.cell3
      replace hA := hid hA
      go_wp2_with fail
      generalize y6.alloc (.cells #[.int .i64 id6, .int .i64 nx6, .int .i64 ak6, .slice p6 L6.length q6] 41) = v6 at hA hB x0 x1 x2 x3 ⊢
      replace hA := hA.out
      clear x0 x1 x2 x3
      have bd : Below v6.heap.size v6 v6.drew := (Below.refl _ v6).drew
      replace hA := hA.below bd
      replace hB := bnext hB bd
      have x0 := hA.blk.cell0
      have x1 := hA.blk.cell1
      have x2 := hA.blk.cell2
      have x3 := hA.blk.cell3
      replace hA := hid hA
      clear bd he6
      have blA := below_lit v6.drew (.cells #[.int .i64 0, .int .i64 0, .int .i64 0, .slice none 0 0] 41)
      have hAa : AR (v6.alloc (.cells #[.int .i64 0, .int .i64 0, .int .i64 0, .slice none 0 0] 41)).drew g 5 9 2 6 p5 q5 r5 eL := hA.out.below blA
      have qa : ABlk (v6.alloc (.cells #[.int .i64 0, .int .i64 0, .int .i64 0, .slice none 0 0] 41)).drew v6.heap.size (.int .i64 0) (.int .i64 0) (.int .i64 0) (.slice none 0 0) := ABlk.new v6.drew (.int .i64 0) (.int .i64 0) (.int .i64 0) (.slice none 0 0)
      have hBa : Below w0.heap.size w0 (v6.alloc (.cells #[.int .i64 0, .int .i64 0, .int .i64 0, .slice none 0 0] 41)).drew := bnext hB blA
      obtain ⟨wz, Z, hmk, hZ, hrow, hbz⟩ := zeros_run v6.drew
      obtain ⟨wb, Zb, hmkb, hZb, hrowb, hbb⟩ := zeros_run (v6.alloc (.cells #[.int .i64 0, .int .i64 0, .int .i64 0, .slice none 0 0] 41)).drew
      have hAz := hA.out.below hbz
      have hBz := bnext hB hbz
      have blz := below_lit wz (.cells #[.int .i64 0, .int .i64 0, .int .i64 0, .slice none 0 0] 41)
      have hAza := hAz.below blz
      have hBza := bnext hBz blz
      have qz := ABlk.new wz (.int .i64 0) (.int .i64 0) (.int .i64 0) (.slice none 0 0)
      have hAb := hAa.below hbb
      have hBb := bnext hBa hbb
      have qb := qa.below hbb
      have xa0 := hAa.blk.cell0
      have xa1 := hAa.blk.cell1
      have xa2 := hAa.blk.cell2
      have xa3 := hAa.blk.cell3
      have z0 := hAz.blk.cell0
      have z1 := hAz.blk.cell1
      have z2 := hAz.blk.cell2
      have z3 := hAz.blk.cell3
      have za0 := hAza.blk.cell0
      have za1 := hAza.blk.cell1
      have za2 := hAza.blk.cell2
      have za3 := hAza.blk.cell3
      have zb0 := hAb.blk.cell0
      have zb1 := hAb.blk.cell1
      have zb2 := hAb.blk.cell2
      have zb3 := hAb.blk.cell3
      have kz := ask_of (ask_long e_right (by rw [hZ]; omega)) rfl p5 6 q5 (g + 1) r5 (some ⟨v6.drew.heap.size, 0, none⟩) 65537 65537 wz hAz.flat hAz.len hAz.kat (by omega) (by omega) hZ (by omega) hrow.at
      have kza := ask_of (ask_long e_right (by rw [hZ]; omega)) rfl p5 6 q5 (g + 1) r5 (some ⟨v6.drew.heap.size, 0, none⟩) 65537 65537 (wz.alloc (.cells #[.int .i64 0, .int .i64 0, .int .i64 0, .slice none 0 0] 41)) hAza.flat hAza.len hAza.kat (by omega) (by omega) hZ (by omega) (hrow.at.below blz)
      have kzb := ask_of (ask_long e_right (by rw [hZb]; omega)) rfl p5 6 q5 (g + 1) r5 (some ⟨(v6.alloc (.cells #[.int .i64 0, .int .i64 0, .int .i64 0, .slice none 0 0] 41)).drew.heap.size, 0, none⟩) 65537 65537 wb hAb.flat hAb.len hAb.kat (by omega) (by omega) hZb (by omega) hrowb.at
      have hgd : g < v6.heap.size := hA.out.blk.lt
      have hgz : g < wz.heap.size := hAz.blk.lt
      have ez : w0.heap.size ≤ wz.heap.size := hBz.size
      have ed : w0.heap.size ≤ v6.heap.size := hB.size
      replace hAz := hid hAz; replace hAza := hid hAza; replace hAb := hid hAb; replace hAa := hid hAa
      replace hZ := hid hZ; replace hZb := hid hZb; replace hrow := hid hrow; replace hrowb := hid hrowb
      replace qa := hid qa; replace qz := hid qz; replace qb := hid qb
      clear blA blz hbz hbb
      rename_i KK hKK
      go_region_law (first
        | (refine step_call rfl 12 _ _ rfl Try.f12 Try.func12 (by kernel_rfl) (by kernel_rfl) #[.agg #[.int .i64 5, .int .i64 9, .int .i64 2, .slice p5 6 q5], .slice (some ⟨v6.drew.heap.size, 0, none⟩) 65537 65537] (by simp [Act.eval]) kz ?_; rintro e y7 ⟨p7, q7, r7, rfl, f7, l7, h7, b7⟩; refine ⟨_, rfl, ?_⟩; have hA7 := hAz.out.below b7; have hB7 := bnext hBz b7; replace hA7 := hid hA7; clear f7 l7 h7 b7)
        | (refine step_call rfl 12 _ _ rfl Try.f12 Try.func12 (by kernel_rfl) (by kernel_rfl) #[.agg #[.int .i64 5, .int .i64 9, .int .i64 2, .slice p5 6 q5], .slice (some ⟨v6.drew.heap.size, 0, none⟩) 65537 65537] (by simp [Act.eval]) kza ?_; rintro e y7 ⟨p7, q7, r7, rfl, f7, l7, h7, b7⟩; refine ⟨_, rfl, ?_⟩; have hA7 := hAza.out.below b7; have hB7 := bnext hBza b7; have q7z := qz.out.below b7; have s0 := q7z.cell0; have s1 := q7z.cell1; have s2 := q7z.cell2; have s3 := q7z.cell3; have t0 := q7z.free 0; have t1 := q7z.free 1; have t2 := q7z.free 2; have t3 := q7z.free 3; replace q7z := hid q7z; replace hA7 := hid hA7; clear f7 l7 h7 b7)
        | (refine step_call rfl 12 _ _ rfl Try.f12 Try.func12 (by kernel_rfl) (by kernel_rfl) #[.agg #[.int .i64 5, .int .i64 9, .int .i64 2, .slice p5 6 q5], .slice (some ⟨(v6.alloc (.cells #[.int .i64 0, .int .i64 0, .int .i64 0, .slice none 0 0] 41)).drew.heap.size, 0, none⟩) 65537 65537] (by simp [Act.eval]) kzb ?_; rintro e y7 ⟨p7, q7, r7, rfl, f7, l7, h7, b7⟩; refine ⟨_, rfl, ?_⟩; have hA7 := hAb.out.below b7; have hB7 := bnext hBb b7; have q7b := qb.out.below b7; have s0 := q7b.cell0; have s1 := q7b.cell1; have s2 := q7b.cell2; have s3 := q7b.cell3; have t0 := q7b.free 0; have t1 := q7b.free 1; have t2 := q7b.free 2; have t3 := q7b.free 3; replace q7b := hid q7b; replace hA7 := hid hA7; clear f7 l7 h7 b7))
      all_goals
        refine hKK _ _ ?_
        conv => arg 4; simp [Act.put]
      all_goals
        refine num_d w0 _ g (.int .i64 5) (.int .i64 9) (.slice p5 6 q5) ?_ ?_ _ _ _ _ _ _ _ _ _ _ _ _ _ _ _ _ _ _ _ _ _ _ _ _ _ _ _ _ _ _ _ _ _ _ _ _ _ _ _ _ _ _ _ _ _ _ _ _ _ _ _ _ _ _ _ _ _ _ _ _ _ _ _ _ _ _ _ _ _ _ _ _ _ _ _ _ _ _ _ _ _ _ _ _ _ _ _ _ _ _ _ _ _ _ _ _ _ _ _ _ _ _ _ _ _ _ _ _ _ _ _ _ _ _ _ _ _ _ _ _ _ _ _ _ _ _ _ _ _ _ _ _ _ _ _ _ _ _ _ _ _ _ _ _ _ _ _ _ _ _ _ _ _ _ _ _ _ _ _ _ _ _ _ _ _ _ _ _ _ _ _ _ _ _ _ _ _ _ _ _ _ _ _ _ _ _ _ _ _ _ _ _ _ _ _ _ _ _ _ _ _ _ _ _ _ _ _ _ _ _ _ _ _ _ _ _ _ _ _ _ _ _ _ _ _ _ _ _ _ _ _ _ _ _ _ _ _ _ _ _ _ _ _ _ _ _ _ _ _ _ _ _ _ _ _ _ _ _ _ _ _ _ _ _ _ _ _ _ _ _ _ _ _ _ _ _ _ _ _ _ _ _ _ _ _ _ _ _ _ _ _ _ _ _ _ _ _ _ _ _ _ _ _ _ _ _ _ _ _ _ _ _ _ _ _ _ _ _ _ _ _ _ _ _ _ _ _ _ _ _ _ _ _ _ _ _ _ _ _ _ _ _ _ _ _ _ _ _ _ _ _ _ _ _ _ _ _ _ _ _ _ _ _ _ _ _ _ _ _ _ _ _ _ _ _ _ _ _ _ _ _ _ _ _ _ _ _ _ _ _ _ _ _ _ _ _ _ _ _ _ _ _ _ _ _ _ _ _ _ _ _ _ _ _ _ _ _ _ _ _ _ _ _ _ _ _ _ _ _ _ _ _ _ _ _ _ _ _ _ _ _ _ _ _ _ _ _ _ _ _ _ _ _ _ _ _
        · first
            | exact (have _ := q7z; below_set4 hB7 wz.heap.size ez _ _ _ _)
            | exact (have _ := q7b; below_set4 hB7 v6.heap.size ed _ _ _ _)
            | exact bnext hB7 (below_lit _ _)
        · first
            | exact (have _ := q7z; (((hA7.out.blk.other wz.heap.size 0 _ (by omega)).other _ 1 _ (by omega)).other _ 2 _ (by omega)).other _ 3 _ (by omega))
            | exact (have _ := q7b; (((hA7.out.blk.other v6.heap.size 0 _ (by omega)).other _ 1 _ (by omega)).other _ 2 _ (by omega)).other _ 3 _ (by omega))
            | exact hA7.out.blk.below (below_lit _ _)

end Go.Proofs.Ythjggjjocfbjcaa
