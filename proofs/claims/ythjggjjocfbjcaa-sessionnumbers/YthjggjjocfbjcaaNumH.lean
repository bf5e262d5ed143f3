/- SessionNumbers, its first part: sixteen clients, eight replies, what is refused. -/
import Derived.Test.YthjggjjocfbjcaaNumG
namespace Go.Proofs.Ythjggjjocfbjcaa
open Go.RowKit

/-- 'make([]byte, n)': so many bytes. -/
theorem wpList_zeros (w : World) {ops : Array Oper} {rest : List Oper} {o : Oper} {a : Act} {Q : Exit → Act → World → Prop} (hg : o.guard = none) (s t : Operand) (hop : o.op = Op.makeSlice 24 s t) (N : Int) (n : Nat) (hs : a.eval s = .int .i64 N) (ht : a.eval t = .int .i64 N) (hN : N = (n : Int)) (hn : n ≤ 10000000)
    (h : ∀ w' Z, Z.length = n → Row w' w.heap.size Z → Below w.heap.size w w' → wpList Try.prog ops Q rest (a.put o.dst (.slice (some ⟨w.heap.size, 0, none⟩) n n)) w') : wpList Try.prog ops Q (o :: rest) a w := by
  obtain ⟨i0, hi, hz0, hz1, hz2⟩ := info_parts info5
  refine wpList_make_full w hg s t 24 hop w.heap.size 5 i0 _ 1 Try.underlying24 hi hz0 hz1 .i64 .i64 N N n hs ht hN hN (by rw [hz2]; omega) (by unfold maxLen; omega) (Nat.le_refl _) ?_
  intro w' ho hg'
  exact h w' _ List.length_replicate (row_made ho) ((Below.refl _ _).grown hg' (Nat.le_refl _) (fun k hk => by cases hk))

/-- Clients in memory whose plain content is l. -/
def CIn (w : World) (l : List PC) (v : Value) : Prop := ∃ a c n L, v = .slice a n c ∧ L.map CV.flat = l ∧ L.length = n ∧ LAt w 0 a L
theorem CIn.below {w w' : World} {l : List PC} {v : Value} (h : CIn w l v) (hb : Below w.heap.size w w') : CIn w' l v := by
  obtain ⟨a, c, n, L, e, h1, h2, h3⟩ := h
  exact ⟨a, c, n, L, e, h1, h2, h3.below hb⟩

set_option maxRecDepth 1000000 in
set_option maxHeartbeats 8000000 in
theorem num_h (hE : ∀ (w0 w : World) (_ : Below w0.heap.size w0 w) (c0 c1 c2 c3 c4 c5 c6 c7 c8 c9 c10 c11 c12 c13 c14 c15 c16 c17 c18 c19 c20 c21 c22 c23 c24 c25 c26 c27 c28 c29 c30 c31 c32 c33 c34 c35 c37 c38 c39 c40 c41 c42 c43 c44 c45 c46 c47 c48 c49 c50 c51 c52 c53 c54 c55 c56 c57 c58 c59 c60 c61 c62 c63 c64 c65 c66 c67 c68 c69 c70 c71 c72 c73 c74 c75 c76 c77 c78 c79 c80 c81 c82 c83 c84 c85 c86 c87 c88 c89 c90 c91 c92 c93 c94 c95 c96 c97 c98 c99 c100 c101 c102 c103 c104 c105 c106 c107 c108 c109 c110 c111 c112 c113 c114 c115 c116 c117 c118 c119 c120 c121 c122 c123 c124 c125 c126 c127 c128 c129 c130 c131 c132 c133 c134 c135 c136 c137 c138 c139 c140 c141 c142 c143 c144 c145 c146 c147 c148 c149 c150 c151 c152 c153 c154 c155 c156 c157 c158 c159 c160 c161 c162 c163 c164 c165 c166 c167 c168 c169 c170 c171 c172 c173 c174 c175 c176 c177 c178 c179 c180 c181 c182 c183 c184 c185 c186 c187 c188 c189 c190 c191 c192 c193 c194 c195 c196 c197 c198 c199 c200 c201 c202 c203 c204 c205 c206 c207 c208 c209 c210 c211 c212 c213 c214 c215 c216 c217 c218 c219 c220 c221 c222 c223 c224 c225 c226 c227 c228 c229 c230 c231 c232 c233 c234 c235 c236 c237 c238 c239 c240 c241 c242 c243 c244 c245 c246 c247 c248 c249 c250 c251 c252 c253 c254 c255 c256 c257 c258 c259 c260 c261 c262 c263 c264 c265 c266 c267 c268 c269 c270 c271 c272 c273 c274 c275 c276 c277 c278 c279 c280 c281 c282 c283 c284 c285 c286 c287 c288 c289 c290 c291 c292 c293 c294 c295 c296 c297 c298 c299 c300 c301 c302 c303 c304 c305 c306 c307 c308 c309 c310 c311 c312 c313 c314 c315 c316 c317 c318 c319 c320 c321 c322 c323 c324 c325 c326 c327 c328 c329 c330 c331 c332 c333 c334 c335 c336 c337 c338 c339 c340 c341 c342 c343 c344 c345 c346 c347 c348 c349 c350 c351 c352 c353 c354 c355 c356 c357 c358 c359 c360 c361 c362 c363 c364 c365 c366 c367 c368 c369 c370 c371 c372 c373 c374 c375 c376 c377 c378 c379 c380 c381 c382 c383 c384 c385 c386 c387 c388 c389 c390 c391 c392 c393 c394 c395 c396 c397 c398 c399 c400 c401 c402 c403 c404 c405 c406 c407 c408 c409 c410 c411 c412 c413 c414 c415 c416 c417 c418 c419 c420 c421 c422 c423 c424 c425 c426 c427 c428 c429 c430 c431 c432 c433 c434 c435 c436 c437 c438 c439 c440 c441 c442 c443 c444 c445 c446 c447 c448 c449 c450 c451 c452 c453 c454 c455 c456 c457 c458 c459 c460 c461 c462 c463 c464 c465 c466 c467 : Value), Code.wp Try.prog ((Try.f3.body.bind (restOf 49)).getD .skip) (bodyPost Try.prog Try.f3 fun e w2 => e = .returned (.bool true) ∧ Below w0.heap.size w0 w2) ⟨#[c0, c1, c2, c3, c4, c5, c6, c7, c8, c9, c10, c11, c12, c13, c14, c15, c16, c17, c18, c19, c20, c21, c22, c23, c24, c25, c26, c27, c28, c29, c30, c31, c32, c33, c34, c35, .bool true, c37, c38, c39, c40, c41, c42, c43, c44, c45, c46, c47, c48, c49, c50, c51, c52, c53, c54, c55, c56, c57, c58, c59, c60, c61, c62, c63, c64, c65, c66, c67, c68, c69, c70, c71, c72, c73, c74, c75, c76, c77, c78, c79, c80, c81, c82, c83, c84, c85, c86, c87, c88, c89, c90, c91, c92, c93, c94, c95, c96, c97, c98, c99, c100, c101, c102, c103, c104, c105, c106, c107, c108, c109, c110, c111, c112, c113, c114, c115, c116, c117, c118, c119, c120, c121, c122, c123, c124, c125, c126, c127, c128, c129, c130, c131, c132, c133, c134, c135, c136, c137, c138, c139, c140, c141, c142, c143, c144, c145, c146, c147, c148, c149, c150, c151, c152, c153, c154, c155, c156, c157, c158, c159, c160, c161, c162, c163, c164, c165, c166, c167, c168, c169, c170, c171, c172, c173, c174, c175, c176, c177, c178, c179, c180, c181, c182, c183, c184, c185, c186, c187, c188, c189, c190, c191, c192, c193, c194, c195, c196, c197, c198, c199, c200, c201, c202, c203, c204, c205, c206, c207, c208, c209, c210, c211, c212, c213, c214, c215, c216, c217, c218, c219, c220, c221, c222, c223, c224, c225, c226, c227, c228, c229, c230, c231, c232, c233, c234, c235, c236, c237, c238, c239, c240, c241, c242, c243, c244, c245, c246, c247, c248, c249, c250, c251, c252, c253, c254, c255, c256, c257, c258, c259, c260, c261, c262, c263, c264, c265, c266, c267, c268, c269, c270, c271, c272, c273, c274, c275, c276, c277, c278, c279, c280, c281, c282, c283, c284, c285, c286, c287, c288, c289, c290, c291, c292, c293, c294, c295, c296, c297, c298, c299, c300, c301, c302, c303, c304, c305, c306, c307, c308, c309, c310, c311, c312, c313, c314, c315, c316, c317, c318, c319, c320, c321, c322, c323, c324, c325, c326, c327, c328, c329, c330, c331, c332, c333, c334, c335, c336, c337, c338, c339, c340, c341, c342, c343, c344, c345, c346, c347, c348, c349, c350, c351, c352, c353, c354, c355, c356, c357, c358, c359, c360, c361, c362, c363, c364, c365, c366, c367, c368, c369, c370, c371, c372, c373, c374, c375, c376, c377, c378, c379, c380, c381, c382, c383, c384, c385, c386, c387, c388, c389, c390, c391, c392, c393, c394, c395, c396, c397, c398, c399, c400, c401, c402, c403, c404, c405, c406, c407, c408, c409, c410, c411, c412, c413, c414, c415, c416, c417, c418, c419, c420, c421, c422, c423, c424, c425, c426, c427, c428, c429, c430, c431, c432, c433, c434, c435, c436, c437, c438, c439, c440, c441, c442, c443, c444, c445, c446, c447, c448, c449, c450, c451, c452, c453, c454, c455, c456, c457, c458, c459, c460, c461, c462, c463, c464, c465, c466, c467], []⟩ w) (w : World) : Calls Try.prog 3 #[] w fun e w' => e = .returned (.bool true) ∧ Below w.heap.size w w' := by
  go_enter Try.func3, Try.ntmps3
  go_wp2_with fail
  go_loopw [1, 2] (fun v i wr => ∃ j : Nat, j ≤ 16 ∧ i = .int .i64 ((j : Int) + 1) ∧ CIn wr (cj j) v ∧ Below w.heap.size w wr) (fun _ i _ => 17 - (intOf i).toNat)
  case atStart => exact ⟨0, by omega, rfl, ⟨none, 0, 0, [], rfl, rfl, rfl, LAt.nil _ _⟩, Below.refl _ _⟩
  case round =>
    obtain ⟨j, hj, rfl, ⟨a, c, n, L, rfl, hf, hl, hA⟩, hB⟩ := hrel
    by_cases hlt : j < 16
    · have hn : n = j := by rw [← hl]; have := congrArg List.length hf; simpa [cj] using this
      subst hn
      have hk := cj_look ⟨n, hlt⟩
      simp only at hk
      have hcl := look_of (cj n) ((16 - n : Nat) : Int) 1 0 1 0 (cj (n + 1)) [] (n + 1) 0 hk (by simp [cj]) rfl a n c 0 L wr hf hl hA (by omega)
      rw [show ((16 - n : Nat) : Int) = 17 - ((n : Int) + 1) by omega] at hcl
      have hw1 : IntKind.i64.wrap (17 - ((n : Int) + 1)) = 17 - ((n : Int) + 1) := by rw [IntKind.wrap_i64]; omega
      have d1 : decide ((n : Int) + 1 ≤ 16) = true := decide_eq_true (by omega)
      replace hk := hid hk
      replace hf := hid hf
      replace hl := hid hl
      go_wp2_with fail
      refine hcl.mono ?_
      rintro e w2 ⟨a2, c2, L2, ra, rc, rfl, f2, l2, h2, -, b2⟩
      dsimp only
      have hI : CIn w2 (cj (n + 1)) (.slice a2 (n + 1) c2) := ⟨a2, c2, n + 1, L2, rfl, f2, l2, h2.le (Nat.zero_le _)⟩
      replace hI := hid hI
      replace f2 := hid f2
      replace l2 := hid l2
      clear hcl
      go_wp2_with fail
      go_roundw
      case rel => exact ⟨n + 1, by omega, by go_num, hI.out, bnext hB b2⟩
      case measure => simp [intOf]; omega
    · obtain rfl : j = 16 := by omega
      have hn : n = 16 := by rw [← hl]; have := congrArg List.length hf; simpa [cj] using this
      subst hn
      have hc1 := look_of (cj 16) 17 1 0 0 5 [] [] 0 0 cj_full rfl rfl a 16 c 0 L wr hf hl hA (by omega)
      replace hf := hid hf
      replace hl := hid hl
      have d1 : decide ((16 : Int) + 1 ≤ 16) = false := rfl
      go_wp2_with fail
      refine hc1.mono ?_
      clear hc1
      rintro e w2 ⟨a2, c2, L2, ra2, rc2, rfl, f2, l2, h2, -, b2⟩
      dsimp only
      replace hA := hA.below b2
      replace hB := bnext hB b2
      have hc1 := look_of (cj 16) 3 1 0 1 0 (cj 16) [] 16 0 cj_again (by decide +kernel) rfl a 16 c 0 L w2 hf.out hl.out hA (by omega)
      clear f2 l2 h2 b2
      go_wp2_with fail
      refine hc1.mono ?_
      clear hc1
      rintro e w3 ⟨a3, c3, L3, ra3, rc3, rfl, f3, l3, h3, -, b3⟩
      dsimp only
      replace hA := hA.below b3
      replace hB := bnext hB b3
      clear f3 l3 h3 b3
      have hI0 : CIn w3 (dj 0) (.slice a 16 c) := ⟨a, c, 16, L, rfl, hf.out.trans dj_zero.symm, hl.out, hA⟩
      replace hA := hid hA
      replace hI0 := hid hI0
      go_wp2_with fail
      go_loopw [1, 15] (fun v i wr => ∃ j : Nat, j ≤ 8 ∧ i = .int .i64 ((j : Int) + 1) ∧ CIn wr (dj j) v ∧ Below w.heap.size w wr) (fun _ i _ => 9 - (intOf i).toNat)
      case atStart => exact ⟨0, by omega, rfl, hI0.out, hB⟩
      case round =>
        clear hI0 hA hf hl hB
        obtain ⟨j, hj, rfl, ⟨a, c, n, L, rfl, hf, hl, hA⟩, hB⟩ := hrel
        have hn : n = 16 := by rw [← hl]; have := congrArg List.length hf; simpa [dj, cj] using this
        subst hn
        by_cases hlt : j < 8
        · have hk := dj_done ⟨j, hlt⟩
          simp only at hk
          have hcl := done_of (dj j) 3 ((2 * (j + 1) : Nat) : Int) 0 (dj (j + 1)) [] 16 hk (by simp [dj, cj]) a 16 c 0 L none 0 0 wr hf hl hA rfl (by omega) (at_nil _ _) (by omega)
          rw [show ((2 * (j + 1) : Nat) : Int) = 2 * ((j : Int) + 1) by omega] at hcl
          have hw1 : IntKind.i64.wrap (2 * ((j : Int) + 1)) = 2 * ((j : Int) + 1) := by rw [IntKind.wrap_i64]; omega
          have d1 : decide ((j : Int) + 1 ≤ 8) = true := decide_eq_true (by omega)
          replace hk := hid hk
          replace hf := hid hf
          replace hl := hid hl
          go_wp2_with fail
          refine hcl.mono ?_
          rintro e w2 ⟨a2, c2, L2, rfl, f2, l2, h2, b2⟩
          dsimp only
          have hI : CIn w2 (dj (j + 1)) (.slice a2 16 c2) := ⟨a2, c2, 16, L2, rfl, f2, l2, h2.le (Nat.zero_le _)⟩
          replace hI := hid hI
          replace f2 := hid f2
          replace l2 := hid l2
          clear hcl
          go_wp2_with fail
          go_roundw
          case rel => exact ⟨j + 1, by omega, by go_num, hI.out, bnext hB b2⟩
          case measure => simp [intOf]; omega
        · obtain rfl : j = 8 := by omega
          have d1 : decide ((8 : Int) + 1 ≤ 8) = false := rfl
          have hc1 := look_of (dj 8) 3 3 0 4 0 (dj 8) [] 16 0 dj_busy (by decide +kernel) rfl a 16 c 0 L wr hf hl hA (by omega)
          replace hf := hid hf
          replace hl := hid hl
          go_wp2_with fail
          refine hc1.mono ?_
          clear hc1
          rintro e w2 ⟨a2, c2, L2, ra2, rc2, rfl, f2, l2, h2, -, b2⟩
          dsimp only
          replace hA := hA.below b2
          replace hB := bnext hB b2
          clear f2 l2 h2 b2
          have hc1 := look_of (dj 8) 3 5 2 1 0 (lookP (dj 8) 3 5 2).1 [] (lookP (dj 8) 3 5 2).1.length 0 (by rw [← dj_free]) rfl rfl a 16 c 0 L w2 hf.out hl.out hA (by omega)
          generalize (lookP (dj 8) 3 5 2).1 = lz at hc1
          generalize lz.length = nz at hc1
          go_wp2_with fail
          refine hc1.mono ?_
          clear hc1
          rintro e w3 ⟨a3, c3, L3, ra3, rc3, rfl, f3, l3, h3, -, b3⟩
          dsimp only
          replace hA := hA.below b3
          replace hB := bnext hB b3
          clear f3 l3 h3 b3
          have hc1 := done_of (dj 8) 3 3 5 [] [] 0 dj_five rfl a 16 c 0 L none 0 0 w3 hf.out hl.out hA rfl (by omega) (at_nil _ _) (by omega)
          go_wp2_with fail
          refine hc1.mono ?_
          clear hc1
          rintro e w4 ⟨a4, c4, L4, rfl, f4, l4, h4, b4⟩
          dsimp only
          replace hA := hA.below b4
          replace hB := bnext hB b4
          clear f4 l4 h4 b4
          have hc1 := done_of (dj 8) 3 2 2 [] [] 0 dj_two rfl a 16 c 0 L none 0 0 w4 hf.out hl.out hA rfl (by omega) (at_nil _ _) (by omega)
          go_wp2_with fail
          refine hc1.mono ?_
          clear hc1
          rintro e w5 ⟨a5, c5, L5, rfl, f5, l5, h5, b5⟩
          dsimp only
          replace hA := hA.below b5
          replace hB := bnext hB b5
          clear f5 l5 h5 b5
          have hc1 := done_of (dj 8) 99 1 2 [] [] 0 dj_none rfl a 16 c 0 L none 0 0 w5 hf.out hl.out hA rfl (by omega) (at_nil _ _) (by omega)
          go_wp2_with fail
          refine hc1.mono ?_
          clear hc1
          rintro e w6 ⟨a6, c6, L6, rfl, f6, l6, h6, b6⟩
          dsimp only
          replace hA := hA.below b6
          replace hB := bnext hB b6
          clear f6 l6 h6 b6
          go_wp2_with (at_make; refine wpList_zeros _ rfl (.const (.int .i64 65537)) (.const (.int .i64 65537)) rfl 65537 65537 rfl rfl rfl (by omega) ?_; intro w7 Z7 hZ7 hrow7 hb7; replace hZ7 := hid hZ7; replace hrow7 := hid hrow7)
          replace hA := hA.below hb7
          replace hB := bnext hB hb7
          have hc1 := done_of (dj 8) 4 1 3 [] Z7 0 (done_long dj_four (by rw [hZ7.out]; omega)) rfl a 16 c 0 L (some ⟨w6.heap.size, 0, none⟩) 65537 65537 w7 hf.out hl.out hA hZ7.out (by omega) hrow7.out.at (by omega)
          refine hc1.mono ?_
          clear hc1
          rintro e w8 ⟨a8, c8, L8, rfl, f8, l8, h8, b8⟩
          dsimp only
          replace hA := hA.below b8
          replace hB := bnext hB b8
          clear f8 l8 h8 b8 hb7
          go_wp2_with (at_make; refine wpList_zeros _ rfl (.const (.int .i64 65536)) (.const (.int .i64 65536)) rfl 65536 65536 rfl rfl rfl (by omega) ?_; intro w9 Z9 hZ9 hrow9 hb9; replace hZ9 := hid hZ9; replace hrow9 := hid hrow9)
          replace hA := hA.below hb9
          replace hB := bnext hB hb9
          have hd4 := done_short (reply := Z9) dj_four (by rw [hZ9.out]; omega)
          obtain ⟨ly, hly⟩ : ∃ l, doneP (dj 8) 4 1 Z9 = (l, 0) := ⟨_, by rw [← hd4]⟩
          have hc1 := done_of (dj 8) 4 1 0 ly Z9 ly.length hly rfl a 16 c 0 L (some ⟨w8.heap.size, 0, none⟩) 65536 65536 w9 hf.out hl.out hA hZ9.out (by omega) hrow9.out.at (by omega)
          generalize ly.length = ny at hc1
          replace hly := hid hly
          replace hd4 := hid hd4
          refine hc1.mono ?_
          clear hc1
          rintro e w10 ⟨a10, c10, L10, rfl, f10, l10, h10, b10⟩
          dsimp only
          replace hB := bnext hB b10
          clear f10 l10 h10 b10 hb9 hA hf hl
          go_wp2_with fail
          have hnew : (w10.alloc (.cells #[.int .i64 0, .int .i64 1, .int .i64 0, .int .i64 1, .int .i64 0, .int .i64 0, .int .i64 1, .int .i64 1, .int .i64 1, .int .i64 1, .int .i64 1, .int .i64 (-1), .int .i64 4611686018427387905, .int .i64 1, .int .i64 0, .int .i64 1, .int .i64 4611686018427387905, .int .i64 0] 30)).heap[w10.heap.size]? = some (.cells #[.int .i64 0, .int .i64 1, .int .i64 0, .int .i64 1, .int .i64 0, .int .i64 0, .int .i64 1, .int .i64 1, .int .i64 1, .int .i64 1, .int .i64 1, .int .i64 (-1), .int .i64 4611686018427387905, .int .i64 1, .int .i64 0, .int .i64 1, .int .i64 4611686018427387905, .int .i64 0] 30 (0, 0)) := heap_alloc_new w10 _
          have bl0 := below_lit w10 (.cells #[.int .i64 0, .int .i64 1, .int .i64 0, .int .i64 1, .int .i64 0, .int .i64 0, .int .i64 1, .int .i64 1, .int .i64 1, .int .i64 1, .int .i64 1, .int .i64 (-1), .int .i64 4611686018427387905, .int .i64 1, .int .i64 0, .int .i64 1, .int .i64 4611686018427387905, .int .i64 0] 30)
          obtain ⟨wL, hwL⟩ : ∃ W, W = w10.alloc (.cells #[.int .i64 0, .int .i64 1, .int .i64 0, .int .i64 1, .int .i64 0, .int .i64 0, .int .i64 1, .int .i64 1, .int .i64 1, .int .i64 1, .int .i64 1, .int .i64 (-1), .int .i64 4611686018427387905, .int .i64 1, .int .i64 0, .int .i64 1, .int .i64 4611686018427387905, .int .i64 0] 30) := ⟨_, rfl⟩
          rw [← hwL] at hnew bl0 ⊢
          clear hwL
          replace hB := bnext hB bl0
          clear bl0
          generalize w10.heap.size = g at hnew ⊢
          replace hnew := hid hnew
          rename_i KK hKK
          replace hKK := hid hKK
          go_loopw [224] (fun i wr => ∃ j : Nat, j ≤ 6 ∧ i = .int .i64 (j : Int) ∧ Below wL.heap.size wL wr) (fun i _ => 6 - (intOf i).toNat)
          case atStart => exact ⟨0, by omega, rfl, Below.refl _ _⟩
          case round =>
            obtain ⟨j, hj, rfl, hBl⟩ := hrel
            have hblk : wr.heap[g]? = some (.cells #[.int .i64 0, .int .i64 1, .int .i64 0, .int .i64 1, .int .i64 0, .int .i64 0, .int .i64 1, .int .i64 1, .int .i64 1, .int .i64 1, .int .i64 1, .int .i64 (-1), .int .i64 4611686018427387905, .int .i64 1, .int .i64 0, .int .i64 1, .int .i64 4611686018427387905, .int .i64 0] 30 (0, 0)) := by rw [hBl.block g (Array.getElem?_eq_some_iff.1 hnew.out).1]; exact hnew.out
            have hc : j = 0 ∨ j = 1 ∨ j = 2 ∨ j = 3 ∨ j = 4 ∨ j = 5 ∨ j = 6 := by omega
            rcases hc with rfl | rfl | rfl | rfl | rfl | rfl | rfl
            · have c0 : wr.cell? ⟨g, 0, none⟩ = some (.int .i64 0) := by simp [World.cell?, hblk]
              have c1 : wr.cell? ⟨g, 1, none⟩ = some (.int .i64 1) := by simp [World.cell?, hblk]
              have c2 : wr.cell? ⟨g, 2, none⟩ = some (.int .i64 0) := by simp [World.cell?, hblk]
              have hcl := fun W => look_of [] (0) (1) (0) 0 2 [] [] 0 0 (look_refused _ _ _ _ (by unfold MM; omega)) rfl rfl none 0 0 0 [] W rfl rfl (LAt.nil _ _) (by omega)
              have bl := below_lit wr (.cells #[.int .i64 0, .int .i64 1, .int .i64 0] 30)
              replace hblk := hid hblk
              go_wp2_with fail
              refine (hcl _).mono ?_
              clear hcl
              rintro e w2 ⟨a2, c2', L2, ra2, rc2, rfl, f2, l2, h2, -, b2⟩
              dsimp only
              have B2 := bnext bl b2
              clear f2 l2 h2 c0 c1 c2
              go_wp2_with fail
              go_roundw
              case rel => exact ⟨1, by omega, rfl, bnext hBl B2⟩
              case measure => simp [intOf]
            · have c0 : wr.cell? ⟨g, 3, none⟩ = some (.int .i64 1) := by simp [World.cell?, hblk]
              have c1 : wr.cell? ⟨g, 4, none⟩ = some (.int .i64 0) := by simp [World.cell?, hblk]
              have c2 : wr.cell? ⟨g, 5, none⟩ = some (.int .i64 0) := by simp [World.cell?, hblk]
              have hcl := fun W => look_of [] (1) (0) (0) 0 2 [] [] 0 0 (look_refused _ _ _ _ (by unfold MM; omega)) rfl rfl none 0 0 0 [] W rfl rfl (LAt.nil _ _) (by omega)
              have bl := below_lit wr (.cells #[.int .i64 1, .int .i64 0, .int .i64 0] 30)
              replace hblk := hid hblk
              go_wp2_with fail
              refine (hcl _).mono ?_
              clear hcl
              rintro e w2 ⟨a2, c2', L2, ra2, rc2, rfl, f2, l2, h2, -, b2⟩
              dsimp only
              have B2 := bnext bl b2
              clear f2 l2 h2 c0 c1 c2
              go_wp2_with fail
              go_roundw
              case rel => exact ⟨2, by omega, rfl, bnext hBl B2⟩
              case measure => simp [intOf]
            · have c0 : wr.cell? ⟨g, 6, none⟩ = some (.int .i64 1) := by simp [World.cell?, hblk]
              have c1 : wr.cell? ⟨g, 7, none⟩ = some (.int .i64 1) := by simp [World.cell?, hblk]
              have c2 : wr.cell? ⟨g, 8, none⟩ = some (.int .i64 1) := by simp [World.cell?, hblk]
              have hcl := fun W => look_of [] (1) (1) (1) 0 2 [] [] 0 0 (look_refused _ _ _ _ (by unfold MM; omega)) rfl rfl none 0 0 0 [] W rfl rfl (LAt.nil _ _) (by omega)
              have bl := below_lit wr (.cells #[.int .i64 1, .int .i64 1, .int .i64 1] 30)
              replace hblk := hid hblk
              go_wp2_with fail
              refine (hcl _).mono ?_
              clear hcl
              rintro e w2 ⟨a2, c2', L2, ra2, rc2, rfl, f2, l2, h2, -, b2⟩
              dsimp only
              have B2 := bnext bl b2
              clear f2 l2 h2 c0 c1 c2
              go_wp2_with fail
              go_roundw
              case rel => exact ⟨3, by omega, rfl, bnext hBl B2⟩
              case measure => simp [intOf]
            · have c0 : wr.cell? ⟨g, 9, none⟩ = some (.int .i64 1) := by simp [World.cell?, hblk]
              have c1 : wr.cell? ⟨g, 10, none⟩ = some (.int .i64 1) := by simp [World.cell?, hblk]
              have c2 : wr.cell? ⟨g, 11, none⟩ = some (.int .i64 (-1)) := by simp [World.cell?, hblk]
              have hcl := fun W => look_of [] (1) (1) (-1) 0 2 [] [] 0 0 (look_refused _ _ _ _ (by unfold MM; omega)) rfl rfl none 0 0 0 [] W rfl rfl (LAt.nil _ _) (by omega)
              have bl := below_lit wr (.cells #[.int .i64 1, .int .i64 1, .int .i64 (-1)] 30)
              replace hblk := hid hblk
              go_wp2_with fail
              refine (hcl _).mono ?_
              clear hcl
              rintro e w2 ⟨a2, c2', L2, ra2, rc2, rfl, f2, l2, h2, -, b2⟩
              dsimp only
              have B2 := bnext bl b2
              clear f2 l2 h2 c0 c1 c2
              go_wp2_with fail
              go_roundw
              case rel => exact ⟨4, by omega, rfl, bnext hBl B2⟩
              case measure => simp [intOf]
            · have c0 : wr.cell? ⟨g, 12, none⟩ = some (.int .i64 4611686018427387905) := by simp [World.cell?, hblk]
              have c1 : wr.cell? ⟨g, 13, none⟩ = some (.int .i64 1) := by simp [World.cell?, hblk]
              have c2 : wr.cell? ⟨g, 14, none⟩ = some (.int .i64 0) := by simp [World.cell?, hblk]
              have hcl := fun W => look_of [] (4611686018427387905) (1) (0) 0 2 [] [] 0 0 (look_refused _ _ _ _ (by unfold MM; omega)) rfl rfl none 0 0 0 [] W rfl rfl (LAt.nil _ _) (by omega)
              have bl := below_lit wr (.cells #[.int .i64 4611686018427387905, .int .i64 1, .int .i64 0] 30)
              replace hblk := hid hblk
              go_wp2_with fail
              refine (hcl _).mono ?_
              clear hcl
              rintro e w2 ⟨a2, c2', L2, ra2, rc2, rfl, f2, l2, h2, -, b2⟩
              dsimp only
              have B2 := bnext bl b2
              clear f2 l2 h2 c0 c1 c2
              go_wp2_with fail
              go_roundw
              case rel => exact ⟨5, by omega, rfl, bnext hBl B2⟩
              case measure => simp [intOf]
            · have c0 : wr.cell? ⟨g, 15, none⟩ = some (.int .i64 1) := by simp [World.cell?, hblk]
              have c1 : wr.cell? ⟨g, 16, none⟩ = some (.int .i64 4611686018427387905) := by simp [World.cell?, hblk]
              have c2 : wr.cell? ⟨g, 17, none⟩ = some (.int .i64 0) := by simp [World.cell?, hblk]
              have hcl := fun W => look_of [] (1) (4611686018427387905) (0) 0 2 [] [] 0 0 (look_refused _ _ _ _ (by unfold MM; omega)) rfl rfl none 0 0 0 [] W rfl rfl (LAt.nil _ _) (by omega)
              have bl := below_lit wr (.cells #[.int .i64 1, .int .i64 4611686018427387905, .int .i64 0] 30)
              replace hblk := hid hblk
              go_wp2_with fail
              refine (hcl _).mono ?_
              clear hcl
              rintro e w2 ⟨a2, c2', L2, ra2, rc2, rfl, f2, l2, h2, -, b2⟩
              dsimp only
              have B2 := bnext bl b2
              clear f2 l2 h2 c0 c1 c2
              go_wp2_with fail
              go_roundw
              case rel => exact ⟨6, by omega, rfl, bnext hBl B2⟩
              case measure => simp [intOf]
            · have hBw := bnext hB hBl
              replace hblk := hid hblk
              go_wp2_with fail
              refine hKK.out _ _ ?_
              exact num_g w wr hBw hE _ _ _ _ _ _ _ _ _ _ _ _ _ _ _ _ _ _ _ _ _ _ _ _ _ _ _ _ _ _ _ _ _ _ _ _ _ _ _ _ _ _ _ _ _ _ _ _ _ _ _ _ _ _ _ _ _ _ _ _ _ _ _ _ _ _ _ _ _ _ _ _ _ _ _ _ _ _ _ _ _ _ _ _ _ _ _ _ _ _ _ _ _ _ _ _ _ _ _ _ _ _ _ _ _ _ _ _ _ _ _ _ _ _ _ _ _ _ _ _ _ _ _ _ _ _ _ _ _ _ _ _ _ _ _ _ _ _ _ _ _ _ _ _ _ _ _ _ _ _ _ _ _ _ _ _ _ _ _ _ _ _ _ _ _ _ _ _ _ _ _ _ _ _ _ _ _ _ _ _ _ _ _ _ _ _ _ _ _ _ _ _ _ _ _ _ _ _ _ _ _ _ _ _ _ _ _ _ _ _ _ _ _ _ _ _ _ _ _ _ _ _ _ _ _ _ _ _ _ _ _ _ _ _ _ _ _ _ _ _ _ _ _ _ _ _ _ _ _ _ _ _ _ _ _ _ _ _ _ _ _ _ _ _ _ _ _ _ _ _ _ _ _ _ _ _ _ _ _ _ _ _ _ _ _ _ _ _ _ _ _ _ _ _ _ _ _ _ _ _ _ _ _ _ _ _ _ _ _ _ _ _ _ _ _ _ _ _ _ _ _ _ _ _ _ _ _ _ _ _ _ _ _ _ _ _ _ _ _ _ _ _ _ _ _ _ _ _ _ _ _ _ _ _ _ _ _ _ _ _ _ _ _ _ _ _ _ _ _ _ _ _ _ _ _ _ _ _ _ _ _ _ _ _ _ _ _ _ _ _ _ _ _ _ _ _ _ _ _ _ _ _ _ _ _ _ _ _ _ _ _ _ _ _ _ _ _ _ _ _ _ _ _ _ _ _ _ _ _ _ _ _ _ _ _ _ _ _ _ _ _ _ _ _ _ _ _ _ _ _ _ _ _ _ _ _ _ _ _ _ _ _ _ _ _ _ _

end Go.Proofs.Ythjggjjocfbjcaa
