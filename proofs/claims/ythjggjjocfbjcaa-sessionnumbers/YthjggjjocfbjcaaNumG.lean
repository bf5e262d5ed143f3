/- SessionNumbers from its region 33 on: seventeen clients, seventeen replies; what is right. -/
import Derived.Test.YthjggjjocfbjcaaNumF
namespace Go.Proofs.Ythjggjjocfbjcaa
open Go.RowKit

def mC (n : Nat) : List CV := (List.range n).map fun i => ⟨((i + 1 : Nat) : Int), 0, none, 0, []⟩
def kC (n : Nat) : List KV := (List.range n).map fun i => ⟨((i + 1 : Nat) : Int), none, 0, []⟩
theorem mC_next (n : Nat) : (mC (n + 1)).flatMap CV.cells = (mC n).flatMap CV.cells ++ [.int .i64 ((n : Int) + 1), .int .i64 0, .slice none 0 0] := by simp [mC, List.range_succ, CV.cells]
theorem kC_next (n : Nat) : (kC (n + 1)).flatMap KV.cells = (kC n).flatMap KV.cells ++ [.int .i64 ((n : Int) + 1), .slice none 0 0] := by simp [kC, List.range_succ, KV.cells]
theorem mC_flat (n : Nat) : (mC n).map CV.flat = mj n := by simp [mC, mj, CV.flat]
theorem kC_flat (n : Nat) : (kC n).map KV.flat = kj n := by simp [kC, kj, KV.flat]


theorem kC_split : (kC 17).flatMap KV.cells = (kC 8).flatMap KV.cells ++ ((kC 17).drop 8).flatMap KV.cells := by
  rw [← List.flatMap_append]; rfl

theorem kc_at {w : World} {a : Option Addr} {n : Nat} (h : CAt w a ((kC n).flatMap KV.cells)) : KAt w 0 a (kC n) :=
  ⟨h, fun _ _ => Nat.zero_le _, (fun k hk => by obtain ⟨i, _, rfl⟩ := List.mem_map.1 hk; exact at_nil _ _), (fun k hk x hx => by obtain ⟨i, _, rfl⟩ := List.mem_map.1 hk; cases hx), (fun k hk => by obtain ⟨i, _, rfl⟩ := List.mem_map.1 hk; simp [SMALL])⟩

set_option maxRecDepth 1000000 in
set_option maxHeartbeats 8000000 in
theorem num_g (w0 wS : World) (hBw : Below w0.heap.size w0 wS)
    (hE : ∀ (w0 w : World) (_ : Below w0.heap.size w0 w) (c0 c1 c2 c3 c4 c5 c6 c7 c8 c9 c10 c11 c12 c13 c14 c15 c16 c17 c18 c19 c20 c21 c22 c23 c24 c25 c26 c27 c28 c29 c30 c31 c32 c33 c34 c35 c37 c38 c39 c40 c41 c42 c43 c44 c45 c46 c47 c48 c49 c50 c51 c52 c53 c54 c55 c56 c57 c58 c59 c60 c61 c62 c63 c64 c65 c66 c67 c68 c69 c70 c71 c72 c73 c74 c75 c76 c77 c78 c79 c80 c81 c82 c83 c84 c85 c86 c87 c88 c89 c90 c91 c92 c93 c94 c95 c96 c97 c98 c99 c100 c101 c102 c103 c104 c105 c106 c107 c108 c109 c110 c111 c112 c113 c114 c115 c116 c117 c118 c119 c120 c121 c122 c123 c124 c125 c126 c127 c128 c129 c130 c131 c132 c133 c134 c135 c136 c137 c138 c139 c140 c141 c142 c143 c144 c145 c146 c147 c148 c149 c150 c151 c152 c153 c154 c155 c156 c157 c158 c159 c160 c161 c162 c163 c164 c165 c166 c167 c168 c169 c170 c171 c172 c173 c174 c175 c176 c177 c178 c179 c180 c181 c182 c183 c184 c185 c186 c187 c188 c189 c190 c191 c192 c193 c194 c195 c196 c197 c198 c199 c200 c201 c202 c203 c204 c205 c206 c207 c208 c209 c210 c211 c212 c213 c214 c215 c216 c217 c218 c219 c220 c221 c222 c223 c224 c225 c226 c227 c228 c229 c230 c231 c232 c233 c234 c235 c236 c237 c238 c239 c240 c241 c242 c243 c244 c245 c246 c247 c248 c249 c250 c251 c252 c253 c254 c255 c256 c257 c258 c259 c260 c261 c262 c263 c264 c265 c266 c267 c268 c269 c270 c271 c272 c273 c274 c275 c276 c277 c278 c279 c280 c281 c282 c283 c284 c285 c286 c287 c288 c289 c290 c291 c292 c293 c294 c295 c296 c297 c298 c299 c300 c301 c302 c303 c304 c305 c306 c307 c308 c309 c310 c311 c312 c313 c314 c315 c316 c317 c318 c319 c320 c321 c322 c323 c324 c325 c326 c327 c328 c329 c330 c331 c332 c333 c334 c335 c336 c337 c338 c339 c340 c341 c342 c343 c344 c345 c346 c347 c348 c349 c350 c351 c352 c353 c354 c355 c356 c357 c358 c359 c360 c361 c362 c363 c364 c365 c366 c367 c368 c369 c370 c371 c372 c373 c374 c375 c376 c377 c378 c379 c380 c381 c382 c383 c384 c385 c386 c387 c388 c389 c390 c391 c392 c393 c394 c395 c396 c397 c398 c399 c400 c401 c402 c403 c404 c405 c406 c407 c408 c409 c410 c411 c412 c413 c414 c415 c416 c417 c418 c419 c420 c421 c422 c423 c424 c425 c426 c427 c428 c429 c430 c431 c432 c433 c434 c435 c436 c437 c438 c439 c440 c441 c442 c443 c444 c445 c446 c447 c448 c449 c450 c451 c452 c453 c454 c455 c456 c457 c458 c459 c460 c461 c462 c463 c464 c465 c466 c467 : Value), Code.wp Try.prog ((Try.f3.body.bind (restOf 49)).getD .skip) (bodyPost Try.prog Try.f3 fun e w2 => e = .returned (.bool true) ∧ Below w0.heap.size w0 w2) ⟨#[c0, c1, c2, c3, c4, c5, c6, c7, c8, c9, c10, c11, c12, c13, c14, c15, c16, c17, c18, c19, c20, c21, c22, c23, c24, c25, c26, c27, c28, c29, c30, c31, c32, c33, c34, c35, .bool true, c37, c38, c39, c40, c41, c42, c43, c44, c45, c46, c47, c48, c49, c50, c51, c52, c53, c54, c55, c56, c57, c58, c59, c60, c61, c62, c63, c64, c65, c66, c67, c68, c69, c70, c71, c72, c73, c74, c75, c76, c77, c78, c79, c80, c81, c82, c83, c84, c85, c86, c87, c88, c89, c90, c91, c92, c93, c94, c95, c96, c97, c98, c99, c100, c101, c102, c103, c104, c105, c106, c107, c108, c109, c110, c111, c112, c113, c114, c115, c116, c117, c118, c119, c120, c121, c122, c123, c124, c125, c126, c127, c128, c129, c130, c131, c132, c133, c134, c135, c136, c137, c138, c139, c140, c141, c142, c143, c144, c145, c146, c147, c148, c149, c150, c151, c152, c153, c154, c155, c156, c157, c158, c159, c160, c161, c162, c163, c164, c165, c166, c167, c168, c169, c170, c171, c172, c173, c174, c175, c176, c177, c178, c179, c180, c181, c182, c183, c184, c185, c186, c187, c188, c189, c190, c191, c192, c193, c194, c195, c196, c197, c198, c199, c200, c201, c202, c203, c204, c205, c206, c207, c208, c209, c210, c211, c212, c213, c214, c215, c216, c217, c218, c219, c220, c221, c222, c223, c224, c225, c226, c227, c228, c229, c230, c231, c232, c233, c234, c235, c236, c237, c238, c239, c240, c241, c242, c243, c244, c245, c246, c247, c248, c249, c250, c251, c252, c253, c254, c255, c256, c257, c258, c259, c260, c261, c262, c263, c264, c265, c266, c267, c268, c269, c270, c271, c272, c273, c274, c275, c276, c277, c278, c279, c280, c281, c282, c283, c284, c285, c286, c287, c288, c289, c290, c291, c292, c293, c294, c295, c296, c297, c298, c299, c300, c301, c302, c303, c304, c305, c306, c307, c308, c309, c310, c311, c312, c313, c314, c315, c316, c317, c318, c319, c320, c321, c322, c323, c324, c325, c326, c327, c328, c329, c330, c331, c332, c333, c334, c335, c336, c337, c338, c339, c340, c341, c342, c343, c344, c345, c346, c347, c348, c349, c350, c351, c352, c353, c354, c355, c356, c357, c358, c359, c360, c361, c362, c363, c364, c365, c366, c367, c368, c369, c370, c371, c372, c373, c374, c375, c376, c377, c378, c379, c380, c381, c382, c383, c384, c385, c386, c387, c388, c389, c390, c391, c392, c393, c394, c395, c396, c397, c398, c399, c400, c401, c402, c403, c404, c405, c406, c407, c408, c409, c410, c411, c412, c413, c414, c415, c416, c417, c418, c419, c420, c421, c422, c423, c424, c425, c426, c427, c428, c429, c430, c431, c432, c433, c434, c435, c436, c437, c438, c439, c440, c441, c442, c443, c444, c445, c446, c447, c448, c449, c450, c451, c452, c453, c454, c455, c456, c457, c458, c459, c460, c461, c462, c463, c464, c465, c466, c467], []⟩ w) (c0 c1 c2 c3 c4 c5 c6 c7 c8 c9 c10 c11 c12 c13 c14 c15 c16 c17 c18 c19 c20 c21 c22 c23 c24 c25 c26 c27 c28 c29 c30 c31 c32 c33 c34 c35 c37 c38 c39 c40 c41 c42 c43 c44 c45 c46 c47 c48 c49 c50 c51 c52 c53 c54 c55 c56 c57 c58 c59 c60 c61 c62 c63 c64 c65 c66 c67 c68 c69 c70 c71 c72 c73 c74 c75 c76 c77 c78 c79 c80 c81 c82 c83 c84 c85 c86 c87 c88 c89 c90 c91 c92 c93 c94 c95 c96 c97 c98 c99 c100 c101 c102 c103 c104 c105 c106 c107 c108 c109 c110 c111 c112 c113 c114 c115 c116 c117 c118 c119 c120 c121 c122 c123 c124 c125 c126 c127 c128 c129 c130 c131 c132 c133 c134 c135 c136 c137 c138 c139 c140 c141 c142 c143 c144 c145 c146 c147 c148 c149 c150 c151 c152 c153 c154 c155 c156 c157 c158 c159 c160 c161 c162 c163 c164 c165 c166 c167 c168 c169 c170 c171 c172 c173 c174 c175 c176 c177 c178 c179 c180 c181 c182 c183 c184 c185 c186 c187 c188 c189 c190 c191 c192 c193 c194 c195 c196 c197 c198 c199 c200 c201 c202 c203 c204 c205 c206 c207 c208 c209 c210 c211 c212 c213 c214 c215 c216 c217 c218 c219 c220 c221 c222 c223 c224 c225 c226 c227 c228 c229 c230 c231 c232 c233 c234 c235 c236 c237 c238 c239 c240 c241 c242 c243 c244 c245 c246 c247 c248 c249 c250 c251 c252 c253 c254 c255 c256 c257 c258 c259 c260 c261 c262 c263 c264 c265 c266 c267 c268 c269 c270 c271 c272 c273 c274 c275 c276 c277 c278 c279 c280 c281 c282 c283 c284 c285 c286 c287 c288 c289 c290 c291 c292 c293 c294 c295 c296 c297 c298 c299 c300 c301 c302 c303 c304 c305 c306 c307 c308 c309 c310 c311 c312 c313 c314 c315 c316 c317 c318 c319 c320 c321 c322 c323 c324 c325 c326 c327 c328 c329 c330 c331 c332 c333 c334 c335 c336 c337 c338 c339 c340 c341 c342 c343 c344 c345 c346 c347 c348 c349 c350 c351 c352 c353 c354 c355 c356 c357 c358 c359 c360 c361 c362 c363 c364 c365 c366 c367 c368 c369 c370 c371 c372 c373 c374 c375 c376 c377 c378 c379 c380 c381 c382 c383 c384 c385 c386 c387 c388 c389 c390 c391 c392 c393 c394 c395 c396 c397 c398 c399 c400 c401 c402 c403 c404 c405 c406 c407 c408 c409 c410 c411 c412 c413 c414 c415 c416 c417 c418 c419 c420 c421 c422 c423 c424 c425 c426 c427 c428 c429 c430 c431 c432 c433 c434 c435 c436 c437 c438 c439 c440 c441 c442 c443 c444 c445 c446 c447 c448 c449 c450 c451 c452 c453 c454 c455 c456 c457 c458 c459 c460 c461 c462 c463 c464 c465 c466 c467 : Value) :
    Code.wp Try.prog ((Try.f3.body.bind (restOf 33)).getD .skip) (bodyPost Try.prog Try.f3 fun e w2 => e = .returned (.bool true) ∧ Below w0.heap.size w0 w2) ⟨#[c0, c1, c2, c3, c4, c5, c6, c7, c8, c9, c10, c11, c12, c13, c14, c15, c16, c17, c18, c19, c20, c21, c22, c23, c24, c25, c26, c27, c28, c29, c30, c31, c32, c33, c34, c35, .bool true, c37, c38, c39, c40, c41, c42, c43, c44, c45, c46, c47, c48, c49, c50, c51, c52, c53, c54, c55, c56, c57, c58, c59, c60, c61, c62, c63, c64, c65, c66, c67, c68, c69, c70, c71, c72, c73, c74, c75, c76, c77, c78, c79, c80, c81, c82, c83, c84, c85, c86, c87, c88, c89, c90, c91, c92, c93, c94, c95, c96, c97, c98, c99, c100, c101, c102, c103, c104, c105, c106, c107, c108, c109, c110, c111, c112, c113, c114, c115, c116, c117, c118, c119, c120, c121, c122, c123, c124, c125, c126, c127, c128, c129, c130, c131, c132, c133, c134, c135, c136, c137, c138, c139, c140, c141, c142, c143, c144, c145, c146, c147, c148, c149, c150, c151, c152, c153, c154, c155, c156, c157, c158, c159, c160, c161, c162, c163, c164, c165, c166, c167, c168, c169, c170, c171, c172, c173, c174, c175, c176, c177, c178, c179, c180, c181, c182, c183, c184, c185, c186, c187, c188, c189, c190, c191, c192, c193, c194, c195, c196, c197, c198, c199, c200, c201, c202, c203, c204, c205, c206, c207, c208, c209, c210, c211, c212, c213, c214, c215, c216, c217, c218, c219, c220, c221, c222, c223, c224, c225, c226, c227, c228, c229, c230, c231, c232, c233, c234, c235, c236, c237, c238, c239, c240, c241, c242, c243, c244, c245, c246, c247, c248, c249, c250, c251, c252, c253, c254, c255, c256, c257, c258, c259, c260, c261, c262, c263, c264, c265, c266, c267, c268, c269, c270, c271, c272, c273, c274, c275, c276, c277, c278, c279, c280, c281, c282, c283, c284, c285, c286, c287, c288, c289, c290, c291, c292, c293, c294, c295, c296, c297, c298, c299, c300, c301, c302, c303, c304, c305, c306, c307, c308, c309, c310, c311, c312, c313, c314, c315, c316, c317, c318, c319, c320, c321, c322, c323, c324, c325, c326, c327, c328, c329, c330, c331, c332, c333, c334, c335, c336, c337, c338, c339, c340, c341, c342, c343, c344, c345, c346, c347, c348, c349, c350, c351, c352, c353, c354, c355, c356, c357, c358, c359, c360, c361, c362, c363, c364, c365, c366, c367, c368, c369, c370, c371, c372, c373, c374, c375, c376, c377, c378, c379, c380, c381, c382, c383, c384, c385, c386, c387, c388, c389, c390, c391, c392, c393, c394, c395, c396, c397, c398, c399, c400, c401, c402, c403, c404, c405, c406, c407, c408, c409, c410, c411, c412, c413, c414, c415, c416, c417, c418, c419, c420, c421, c422, c423, c424, c425, c426, c427, c428, c429, c430, c431, c432, c433, c434, c435, c436, c437, c438, c439, c440, c441, c442, c443, c444, c445, c446, c447, c448, c449, c450, c451, c452, c453, c454, c455, c456, c457, c458, c459, c460, c461, c462, c463, c464, c465, c466, c467], []⟩ wS := by
  conv => arg 2; whnf
  obtain ⟨i0, hi0, hz0, hz1, hz2⟩ := info_parts info34z
  obtain ⟨i1, hi1, hy0, hy1, hy2⟩ := info_parts info36z
  go_wp2_with fail
  rename_i KK hKK
  replace hKK := hid hKK
  go_loopw [43, 44, 45] (fun v k i wr => ∃ j : Nat, j ≤ 17 ∧ i = .int .i64 ((j : Int) + 1) ∧ wr.ownsRow wS.heap.size 34 3 v j ((mC j).flatMap CV.cells) ∧ wr.ownsRow wS.heap.size 36 2 k j ((kC j).flatMap KV.cells) ∧ Below wS.heap.size wS wr) (fun _ _ i _ => 18 - (intOf i).toNat)
  case atStart => exact ⟨0, by omega, rfl, World.ownsRow_nil _ _ _ _, World.ownsRow_nil _ _ _ _, Below.refl _ _⟩
  case round =>
    obtain ⟨j, hj, rfl, hm, hk, hBs⟩ := hrel
    by_cases hlt : j < 17
    · have d1 : decide ((j : Int) + 1 ≤ 17) = true := decide_eq_true (by omega)
      obtain ⟨Mc, hMc⟩ : ∃ x, (mC j).flatMap CV.cells = x := ⟨_, rfl⟩
      obtain ⟨Kc, hKc⟩ : ∃ x, (kC j).flatMap KV.cells = x := ⟨_, rfl⟩
      rw [hMc] at hm
      rw [hKc] at hk
      replace hMc := hid hMc
      replace hKc := hid hKc
      have bl1 := below_lit wr (.cells #[.int .i64 ((j : Int) + 1), .int .i64 0, .slice none 0 0] 34)
      have hm1 := hid (owns_below hm bl1)
      have hk1 := hid (owns_below hk bl1)
      have hcl1 := hid (cat_lit wr 34 [.int .i64 ((j : Int) + 1), .int .i64 0, .slice none 0 0] _ rfl)
      have hbs1 := hid (Nat.le_trans hBs.size bl1.size)
      go_wp2_with (at_builtin; refine Hid.out ?_)
      refine hid ?_
      refine wpList_cat _ rfl (.tmp 256) (.tmp 259) 22 rfl wS.heap.size 34 i0 _ 3 40 Try.underlying22 hi0 hz0 hz1 hz2 rfl (by omega) u43 j Mc rfl hm1.out (some ⟨wr.heap.size, 0, none⟩) 1 1 [.int .i64 ((j : Int) + 1), .int .i64 0, .slice none 0 0] rfl rfl hcl1.out (by simp [Value.oneCell']) (by unfold maxLen; omega) (by omega) hbs1.out ?_
      intro v7 w7 hr7 hg7 hv7
      have hk7 := owns_kp hk1.out (Kp.grown hg7) (fun k hk' e => rows_off hk1.out hm1.out (by decide) k hk' e)
      have hB7 := (hBs.trans (bl1.mono hBs.size)).trans ((Kp.grown hg7).below (fun k hk' => (World.ownsRow.lt hm1.out k hk').1) hbs1.out)
      have bl2 := below_lit w7 (.cells #[.int .i64 ((j : Int) + 1), .slice none 0 0] 36)
      have hm8 := hid (owns_below hr7 bl2)
      have hk8 := hid (owns_below hk7 bl2)
      have hcl2 := hid (cat_lit w7 36 [.int .i64 ((j : Int) + 1), .slice none 0 0] _ rfl)
      have hbs2 := hid (Nat.le_trans hB7.size bl2.size)
      replace hr7 := hid hr7
      replace hk7 := hid hk7
      clear hg7 hv7
      go_wp2_with (at_builtin; refine Hid.out ?_)
      refine hid ?_
      refine wpList_cat _ rfl (.tmp 261) (.tmp 264) 32 rfl wS.heap.size 36 i1 _ 2 32 Try.underlying32 hi1 hy0 hy1 hy2 rfl (by omega) u44 j Kc rfl hk8.out (some ⟨w7.heap.size, 0, none⟩) 1 1 [.int .i64 ((j : Int) + 1), .slice none 0 0] rfl rfl hcl2.out (by simp [Value.oneCell']) (by unfold maxLen; omega) (by omega) hbs2.out ?_
      intro v9 w9 hr9 hg9 hv9
      have hm9 := owns_kp hm8.out (Kp.grown hg9) (fun k hk' e => rows_off hm8.out hk8.out (by decide) k hk' e)
      have hB9 := (hB7.trans (bl2.mono hB7.size)).trans ((Kp.grown hg9).below (fun k hk' => (World.ownsRow.lt hk8.out k hk').1) hbs2.out)
      rw [← hMc.out, ← mC_next] at hm9
      rw [← hKc.out, ← kC_next] at hr9
      replace hm9 := hid hm9
      replace hr9 := hid hr9
      clear hg9 hv9
      go_wp2_with fail
      go_roundw
      case rel => exact ⟨j + 1, by omega, by go_num, hm9.out, hr9.out, hB9⟩
      case measure => simp [intOf]; omega
    · obtain rfl : j = 17 := by omega
      obtain ⟨aM, cM, rfl, hcM⟩ := owns_form hm
      obtain ⟨aK, cK, rfl, hcK⟩ := owns_form hk
      have hMat : LAt wr 0 aM (mC 17) := ⟨owns_cat hm, fun _ _ => Nat.zero_le _, fun c hc => by obtain ⟨i, _, rfl⟩ := List.mem_map.1 hc; exact KAt.nil _ _⟩
      have hKat : KAt wr 0 aK (kC 17) := kc_at (owns_cat hk)
      have hBf := bnext hBw hBs
      obtain ⟨bM, oM, hbM⟩ := hMat.place (by decide)
      subst hbM
      obtain ⟨bK, oK, hbK⟩ := hKat.place (by decide)
      subst hbK
      have hM16 : LAt wr 0 (some ⟨bM, oM, none⟩) (mC 16) := by
        refine ⟨?_, hMat.low, fun c hc => hMat.kept c (by obtain ⟨i, hi, rfl⟩ := List.mem_map.1 hc; exact List.mem_map.2 ⟨i, by simp at hi ⊢; omega, rfl⟩)⟩
        have hr := hMat.row
        rw [mC_next 16] at hr
        exact cat_head hr
      have k1 := right_any (some ⟨bM, oM, none⟩) 16 cM 0 (mC 16) wr rfl hM16 (by omega)
      rw [mC_flat, mj_right] at k1
      have h16 : (16 : Int) ≤ (cM : Int) := by omega
      have h8 : (8 : Int) ≤ (cK : Int) := by omega
      replace hm := hid hm
      replace hk := hid hk
      replace hMat := hid hMat
      replace hKat := hid hKat
      replace hM16 := hid hM16
      go_wp2_with fail
      refine hKK.out _ _ ?_
      go_wp2_with fail
      refine k1.mono ?_
      clear k1
      rintro e w1 ⟨rfl, hb1⟩
      dsimp only
      rename_i K2 h2 K1 h1 K0 h0
      replace h2 := hid h2
      have hK8 : KAt w1 0 (some ⟨bK, oK, none⟩) (kC 8) := by
        have hr := (hKat.out.below hb1).row
        rw [kC_split] at hr
        exact kc_at (cat_head hr)
      have bl := below_lit w1 (.cells #[.int .i64 1, .int .i64 0, .slice (some ⟨bK, oK, none⟩) 8 cK] 34)
      have hone : LAt (w1.alloc (.cells #[.int .i64 1, .int .i64 0, .slice (some ⟨bK, oK, none⟩) 8 cK] 34)) 0 (some ⟨w1.heap.size, 0, none⟩) [⟨1, 0, some ⟨bK, oK, none⟩, cK, kC 8⟩] := by
        refine ⟨cat_lit w1 34 [.int .i64 1, .int .i64 0, .slice (some ⟨bK, oK, none⟩) 8 cK] _ rfl, fun _ _ => Nat.zero_le _, fun c hc => ?_⟩
        simp at hc
        subst hc
        exact hK8.below bl
      have k2 := right_any (some ⟨w1.heap.size, 0, none⟩) 1 1 0 [⟨1, 0, some ⟨bK, oK, none⟩, cK, kC 8⟩] _ rfl hone (by omega)
      rw [show rightP (([⟨1, 0, some ⟨bK, oK, none⟩, cK, kC 8⟩] : List CV).map CV.flat) = true by
        show rightP [(1, 0, (kC 8).map KV.flat)] = true
        rw [kC_flat]; exact kj_right] at k2
      have B1 := bnext hb1 bl
      replace hK8 := hid hK8
      replace hone := hid hone
      go_wp2_with fail
      refine k2.mono ?_
      clear k2
      rintro e w2 ⟨rfl, hb2⟩
      dsimp only
      have B2 := bnext B1 hb2
      have hBz := bnext hBf B2
      have hM2 := hMat.out.below B2
      have hK2 := hKat.out.below B2
      replace hM2 := hid hM2
      replace hK2 := hid hK2
      clear bl B1 hb1 hb2
      go_wp2_with fail
      refine h2.out _ _ ?_
      exact num_f w0 w2 (some ⟨bM, oM, none⟩) (some ⟨bK, oK, none⟩) cM cK (mC 17) (kC 17) hBz hM2.out (mC_flat 17) hK2.out (kC_flat 17) hcK hE _ _ _ _ _ _ _ _ _ _ _ _ _ _ _ _ _ _ _ _ _ _ _ _ _ _ _ _ _ _ _ _ _ _ _ _ _ _ _ _ _ _ _ _ _ _ _ _ _ _ _ _ _ _ _ _ _ _ _ _ _ _ _ _ _ _ _ _ _ _ _ _ _ _ _ _ _ _ _ _ _ _ _ _ _ _ _ _ _ _ _ _ _ _ _ _ _ _ _ _ _ _ _ _ _ _ _ _ _ _ _ _ _ _ _ _ _ _ _ _ _ _ _ _ _ _ _ _ _ _ _ _ _ _ _ _ _ _ _ _ _ _ _ _ _ _ _ _ _ _ _ _ _ _ _ _ _ _ _ _ _ _ _ _ _ _ _ _ _ _ _ _ _ _ _ _ _ _ _ _ _ _ _ _ _ _ _ _ _ _ _ _ _ _ _ _ _ _ _ _ _ _ _ _ _ _ _ _ _ _ _ _ _ _ _ _ _ _ _ _ _ _ _ _ _ _ _ _ _ _ _ _ _ _ _ _ _ _ _ _ _ _ _ _ _ _ _ _ _ _ _ _ _ _ _ _ _ _ _ _ _ _ _ _ _ _ _ _ _ _ _ _ _ _ _ _ _ _ _ _ _ _ _ _ _ _ _ _ _ _ _ _ _ _ _ _ _ _ _ _ _ _ _ _ _ _ _ _ _ _ _ _ _ _ _ _ _ _ _ _ _ _ _ _ _ _ _ _ _ _ _ _ _ _ _ _ _ _ _ _ _ _ _ _ _ _ _ _ _ _ _ _ _ _ _ _ _ _ _ _ _ _ _ _ _ _ _ _ _ _ _ _ _ _ _ _ _ _ _ _ _ _ _ _ _ _ _ _ _ _ _ _ _ _ _ _ _ _ _ _ _ _ _ _ _ _ _ _ _ _ _ _ _ _ _ _ _ _ _ _ _ _ _ _ _ _ _ _ _ _ _ _ _ _ _ _ _ _ _ _ _ _ _ _ _ _ _ _ _ _ _ _ _ _ _ _ _ _ _ _ _ _ _ _ _

end Go.Proofs.Ythjggjjocfbjcaa
