/- SessionNumbers from its region 64 on. -/
import Derived.Test.YthjggjjocfbjcaaNumC
namespace Go.Proofs.Ythjggjjocfbjcaa
open Go.RowKit

theorem begin_zero : beginP 0 = ((0, 0, 0, []), 2) := by kernel_rfl

set_option maxRecDepth 1000000 in
set_option maxHeartbeats 8000000 in
theorem num_d (w0 w : World) (g : Nat) (x y s : Value) (hB : Below w0.heap.size w0 w) (hg : ABlk w g x y (.int .i64 2) s) (c0 c1 c2 c3 c4 c5 c6 c7 c8 c9 c10 c11 c12 c13 c14 c15 c16 c17 c18 c19 c20 c21 c22 c23 c24 c25 c26 c27 c28 c29 c30 c31 c32 c33 c34 c35 c37 c38 c39 c40 c41 c42 c43 c44 c45 c46 c47 c48 c49 c50 c51 c54 c55 c56 c57 c58 c59 c63 c64 c66 c68 c70 c71 c74 c75 c77 c78 c79 c80 c81 c82 c83 c84 c85 c86 c87 c88 c89 c90 c91 c92 c93 c94 c95 c96 c97 c98 c99 c100 c101 c102 c103 c104 c105 c106 c107 c108 c109 c110 c111 c112 c113 c114 c115 c116 c117 c118 c119 c120 c121 c122 c123 c124 c125 c126 c127 c128 c129 c130 c131 c132 c133 c134 c135 c136 c137 c138 c139 c140 c141 c142 c143 c144 c145 c146 c147 c148 c149 c150 c151 c152 c153 c154 c155 c156 c157 c158 c159 c160 c161 c162 c163 c164 c165 c166 c167 c168 c169 c170 c171 c172 c173 c174 c175 c176 c177 c178 c179 c180 c181 c182 c183 c184 c185 c186 c187 c188 c189 c190 c191 c192 c193 c194 c195 c196 c197 c198 c199 c200 c201 c202 c203 c204 c205 c206 c207 c208 c209 c210 c211 c212 c213 c214 c215 c216 c217 c218 c219 c220 c221 c222 c223 c224 c225 c226 c227 c228 c229 c230 c231 c232 c233 c234 c235 c236 c237 c238 c239 c240 c241 c242 c243 c244 c245 c246 c247 c248 c249 c250 c251 c252 c253 c254 c255 c256 c257 c258 c259 c260 c261 c262 c263 c264 c265 c266 c267 c268 c269 c270 c271 c272 c273 c274 c275 c276 c277 c278 c279 c280 c281 c282 c283 c284 c285 c286 c287 c288 c289 c290 c291 c292 c293 c294 c295 c296 c297 c298 c299 c300 c301 c302 c303 c304 c305 c306 c307 c308 c309 c310 c311 c312 c313 c314 c315 c316 c317 c318 c319 c320 c321 c322 c323 c324 c325 c326 c327 c328 c329 c330 c331 c332 c333 c334 c335 c336 c337 c338 c339 c340 c341 c342 c343 c344 c345 c346 c347 c348 c349 c350 c351 c352 c353 c354 c355 c356 c357 c358 c359 c360 c361 c362 c363 c364 c365 c366 c367 c368 c369 c370 c371 c372 c373 c374 c375 c376 c377 c378 c379 c380 c381 c382 c383 c384 c385 c386 c387 c388 c389 c390 c391 c392 c393 c394 c395 c396 c397 c398 c399 c400 c401 c402 c403 c404 c405 c406 c407 c408 c409 c410 c411 c412 c413 c414 c415 c416 c417 c418 c419 c420 c421 c422 c423 c424 c425 c426 c427 c428 c429 c430 c431 c432 c433 c434 c435 c436 c437 c438 c439 c440 c441 c442 c443 c444 c445 c446 c447 c448 c449 c450 c451 c452 c453 c454 c455 c456 c457 c458 c459 c460 c461 c462 c463 c464 c465 c466 c467 : Value) :
    Code.wp Try.prog ((Try.f3.body.bind (restOf 64)).getD .skip) (bodyPost Try.prog Try.f3 fun e w2 => e = .returned (.bool true) ∧ Below w0.heap.size w0 w2) ⟨#[c0, c1, c2, c3, c4, c5, c6, c7, c8, c9, c10, c11, c12, c13, c14, c15, c16, c17, c18, c19, c20, c21, c22, c23, c24, c25, c26, c27, c28, c29, c30, c31, c32, c33, c34, c35, .bool true, c37, c38, c39, c40, c41, c42, c43, c44, c45, c46, c47, c48, c49, c50, c51, .pointer (some ⟨g, 0, none⟩), .int .i64 0, c54, c55, c56, c57, c58, c59, .int .i64 7, .bool true, .int .i64 0, c63, c64, .int .i64 7, c66, .bool false, c68, .bool true, c70, c71, .int .i64 9, .int .i64 0, c74, c75, .int .i64 3, c77, c78, c79, c80, c81, c82, c83, c84, c85, c86, c87, c88, c89, c90, c91, c92, c93, c94, c95, c96, c97, c98, c99, c100, c101, c102, c103, c104, c105, c106, c107, c108, c109, c110, c111, c112, c113, c114, c115, c116, c117, c118, c119, c120, c121, c122, c123, c124, c125, c126, c127, c128, c129, c130, c131, c132, c133, c134, c135, c136, c137, c138, c139, c140, c141, c142, c143, c144, c145, c146, c147, c148, c149, c150, c151, c152, c153, c154, c155, c156, c157, c158, c159, c160, c161, c162, c163, c164, c165, c166, c167, c168, c169, c170, c171, c172, c173, c174, c175, c176, c177, c178, c179, c180, c181, c182, c183, c184, c185, c186, c187, c188, c189, c190, c191, c192, c193, c194, c195, c196, c197, c198, c199, c200, c201, c202, c203, c204, c205, c206, c207, c208, c209, c210, c211, c212, c213, c214, c215, c216, c217, c218, c219, c220, c221, c222, c223, c224, c225, c226, c227, c228, c229, c230, c231, c232, c233, c234, c235, c236, c237, c238, c239, c240, c241, c242, c243, c244, c245, c246, c247, c248, c249, c250, c251, c252, c253, c254, c255, c256, c257, c258, c259, c260, c261, c262, c263, c264, c265, c266, c267, c268, c269, c270, c271, c272, c273, c274, c275, c276, c277, c278, c279, c280, c281, c282, c283, c284, c285, c286, c287, c288, c289, c290, c291, c292, c293, c294, c295, c296, c297, c298, c299, c300, c301, c302, c303, c304, c305, c306, c307, c308, c309, c310, c311, c312, c313, c314, c315, c316, c317, c318, c319, c320, c321, c322, c323, c324, c325, c326, c327, c328, c329, c330, c331, c332, c333, c334, c335, c336, c337, c338, c339, c340, c341, c342, c343, c344, c345, c346, c347, c348, c349, c350, c351, c352, c353, c354, c355, c356, c357, c358, c359, c360, c361, c362, c363, c364, c365, c366, c367, c368, c369, c370, c371, c372, c373, c374, c375, c376, c377, c378, c379, c380, c381, c382, c383, c384, c385, c386, c387, c388, c389, c390, c391, c392, c393, c394, c395, c396, c397, c398, c399, c400, c401, c402, c403, c404, c405, c406, c407, c408, c409, c410, c411, c412, c413, c414, c415, c416, c417, c418, c419, c420, c421, c422, c423, c424, c425, c426, c427, c428, c429, c430, c431, c432, c433, c434, c435, c436, c437, c438, c439, c440, c441, c442, c443, c444, c445, c446, c447, c448, c449, c450, c451, c452, c453, c454, c455, c456, c457, c458, c459, c460, c461, c462, c463, c464, c465, c466, c467], []⟩ w := by
  conv => arg 2; whnf
  have k1 := begin_any 0 w
  rw [begin_zero] at k1
  go_wp2_with fail
  refine k1.mono ?_
  clear k1
  rintro e w1 ⟨rfl, hb1⟩
  replace hg := hg.below hb1
  replace hB := bnext hB hb1
  clear hb1
  go_wp2_with fail
  have bl := below_lit w1 (.cells #[.int .i64 0, .int .i64 0, .int .i64 0, .slice none 0 0] 41)
  replace hg := hg.below bl
  replace hB := bnext hB bl
  obtain ⟨w2, hw2⟩ : ∃ W, W = w1.alloc (.cells #[.int .i64 0, .int .i64 0, .int .i64 0, .slice none 0 0] 41) := ⟨_, rfl⟩
  rw [← hw2] at hg hB ⊢
  clear bl hw2
  have k2 := ask_of a_wrong rfl none 0 0 0 [] none 0 0 w2 rfl rfl (KAt.nil _ _) (by omega) (by omega) rfl (by omega) (at_nil _ _)
  refine k2.mono ?_
  clear k2
  rintro e w3 ⟨a3, c3', ks3, rfl, f3, l3, h3, hb3⟩
  clear f3 l3 h3
  replace hg := hg.below hb3
  replace hB := bnext hB hb3
  clear hb3
  go_wp2_with fail
  have bl := below_lit w3 (.cells #[.int .i64 0, .int .i64 0, .int .i64 0, .slice a3 0 c3'] 41)
  replace hg := hg.below bl
  replace hB := bnext hB bl
  obtain ⟨w4, hw4⟩ : ∃ W, W = w3.alloc (.cells #[.int .i64 0, .int .i64 0, .int .i64 0, .slice a3 0 c3'] 41) := ⟨_, rfl⟩
  rw [← hw4] at hg hB ⊢
  have es : w4.heap.size = w3.heap.size + 1 := by rw [hw4]; simp
  clear bl hw4
  have bl := below_lit w4 (.cells #[.int .i64 1, .int .i64 4611686018427387904, .int .i64 4611686018427387903, .slice none 0 0] 41)
  have q5 := ABlk.new w4 (.int .i64 1) (.int .i64 4611686018427387904) (.int .i64 4611686018427387903) (.slice none 0 0)
  replace hg := hg.below bl
  replace hB := bnext hB bl
  obtain ⟨w5, hw5⟩ : ∃ W, W = w4.alloc (.cells #[.int .i64 1, .int .i64 4611686018427387904, .int .i64 4611686018427387903, .slice none 0 0] 41) := ⟨_, rfl⟩
  rw [← hw5] at hg hB q5 ⊢
  rw [es] at q5
  clear bl hw5 es
  generalize w3.heap.size + 1 = g5 at q5 ⊢
  have k3 := ask_of a_end rfl none 0 0 0 [] none 0 0 w5 rfl rfl (KAt.nil _ _) (by omega) (by omega) rfl (by omega) (at_nil _ _)
  refine k3.mono ?_
  clear k3
  rintro e w6 ⟨a6, c6', ks6, rfl, f6, l6, h6, hb6⟩
  clear f6 l6 h6
  replace hg := hg.below hb6
  replace q5 := q5.below hb6
  replace hB := bnext hB hb6
  clear hb6
  have bl := below_lit w6 (.cells #[.int .i64 0, .int .i64 0, .int .i64 0, .slice a6 0 c6'] 41)
  have hg7 := hg.below bl
  have q7 := q5.below bl
  have d2 := hg7.cell2
  have e0 := q7.cell0
  have e1 := q7.cell1
  have e2 := q7.cell2
  have e3 := q7.cell3
  have hB7 := bnext hB bl
  have k4 := righta_any 1 4611686018427387904 4611686018427387903 none 0 0 0 [] (w6.alloc (.cells #[.int .i64 0, .int .i64 0, .int .i64 0, .slice a6 0 c6'] 41)) rfl (KAt.nil _ _) (by omega) (by omega)
  rw [show rightA (1, 4611686018427387904, 4611686018427387903, ([] : List KV).map KV.flat) = true from a_end_right] at k4
  replace hg := hid hg
  replace q5 := hid q5
  replace hg7 := hid hg7
  replace q7 := hid q7
  go_wp2_with fail
  refine k4.mono ?_
  clear k4
  rintro e w8 ⟨rfl, hb8⟩
  have hB8 := bnext hB7 hb8
  clear d2 e0 e1 e2 e3 hB7 hb8 bl
  go_wp2_with fail
  refine (awake_any _).mono ?_
  rintro e w9 ⟨rfl, hb9⟩
  have hB9 := bnext hB8 hb9
  go_wp2
  go_ret
  exact ⟨rfl, hB9⟩

end Go.Proofs.Ythjggjjocfbjcaa
