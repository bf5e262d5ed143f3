/- NetPlays: Copy. -/
import Derived.Test.YtgjjgfppolmkoaaPlaysC5
namespace Go.Proofs.Ytgjjgfppolmkoaa
open Go.RowKit Go.Maps
set_option linter.unusedVariables false

theorem cell_ne {w : World} {p q : Addr} {u v : Value} (h : w.cell? q = some v) (hne : ¬ (p.block = q.block ∧ p.off = q.off)) : (w.setCell p u).cell? q = some v :=
  (World.cell?_setCell_other _ _ _ _ (fun e => hne (by rw [e]; exact ⟨rfl, rfl⟩))).trans h

set_option maxRecDepth 1000000 in
set_option maxHeartbeats 8000000 in
theorem plays_w5 {F : Act → World → Prop} {w : World} {base gd gl g9 on b : Nat} {kind onv fr to num : Int} {ba : Option Addr} {len bc : Nat} {body : List UInt8} {c0 c1 c2 c3 c4 c7 c8 c12 c13 c14 c15 c16 c17 c18 c19 c20 c21 c22 c23 c24 c25 c26 c27 c28 c29 c30 c31 c32 c33 c34 c35 c36 c37 c38 c39 c40 c41 c42 c43 c44 c45 c46 c47 c48 c49 c50 c51 c52 c53 c54 c55 c56 c57 c58 c59 c60 c61 c62 c63 c64 c65 c66 c67 c68 c69 c70 c71 c72 c73 c74 c76 c77 c78 c79 c80 c81 c82 c83 c84 c85 c86 c87 c88 c89 c90 c91 c92 c93 c94 c95 c96 c97 c98 c99 c100 c101 c102 c103 c104 c105 c106 c107 c108 c109 c110 c111 c112 c113 c114 c115 c116 c117 c118 c119 c120 c121 c122 c123 c124 c125 c126 c127 c128 c129 c130 c131 c132 c133 c134 c135 c136 c137 c138 c139 c140 c141 c142 c143 c144 c145 c146 c147 c148 c149 c150 c151 c152 c153 c154 c155 c156 c157 c158 c159 c160 c161 c162 c163 c164 c165 c166 c167 c168 c169 c170 c171 c172 c173 c174 c175 c176 c177 c178 c179 c180 c181 c182 c183 c184 c185 c186 c187 c188 c189 c190 c191 c192 c193 c194 c195 c196 c197 c198 c199 c200 c201 c202 c203 c204 c205 c206 c207 c208 c209 c210 c211 c212 c213 c214 c215 c216 c217 c218 c219 c220 c221 c222 c223 c224 c225 c226 c227 c228 c229 c230 c231 c232 c233 c234 c235 c236 c237 c238 c239 c240 c241 c242 c243 c244 c245 c246 c247 c248 c249 c250 c251 c252 c253 c254 c255 c256 c257 c258 c259 c260 c261 c262 c263 : Value}
    (hP : Hid (PO base gd gl g9 on w b)) (hb : b ≤ 1000) (h9 : Hid (O9 w g9 kind onv fr to ba len bc num)) (hl : Hid (body.length = len)) (hlen : len ≤ 140737488355328) (hat : Hid (At w ba body)) (hba : Hid (body ≠ [] → ∀ x, ba = some x → x.block < base)) (hnum : Hid ((Lit.int .i64 num).wf = true)) (hkind : kind = 5)
    (hN : Hid (∀ (d12 d13 d14 d15 d16 d17 d18 d19 d20 d21 d22 d23 d24 d25 d26 d27 d28 d29 d30 d31 d76 d77 d78 d79 d80 d81 d82 d83 d84 d85 d86 d87 d88 d89 d90 d91 d92 d93 d94 d95 d96 d97 d98 d99 d100 d101 d102 d103 d104 d105 d106 d107 d108 d109 d110 d111 d112 d113 d114 d115 d116 d117 d118 d119 d120 d121 d122 d123 d124 d125 d126 d127 d128 d129 d130 d131 d132 d133 d134 d135 d136 d137 d138 d139 d140 d141 d142 d143 d144 d145 d146 d147 d148 d149 d150 d151 d152 d153 d154 d155 d156 d157 d158 d159 d160 d161 d162 d163 d164 d165 d166 d167 d168 d169 d170 d171 d172 d173 d174 d175 d176 d177 d178 d179 d180 d181 d182 d183 d184 d185 d186 d187 d188 d189 d190 d191 d192 d193 d194 d195 d196 d197 d198 d199 d200 d201 d202 d203 d204 d205 d206 d207 d208 d209 d210 d211 d212 d213 d214 d215 d216 d217 d218 d219 d220 d221 d222 d223 d224 d225 d226 d227 d228 d229 d230 : Value) (wE : World), PN base gd gl on wE (b + 1) → Below base w wE → F ⟨#[c0, c1, c2, c3, c4, .pointer (some ⟨gd, 0, none⟩), .pointer (some ⟨gl, 0, none⟩), c7, c8, .pointer (some ⟨g9, 0, none⟩), .int .i64 (on : Int), .bool true, d12, d13, d14, d15, d16, d17, d18, d19, d20, d21, d22, d23, d24, d25, d26, d27, d28, d29, d30, d31, c32, c33, c34, c35, c36, c37, c38, c39, c40, c41, c42, c43, c44, c45, c46, c47, c48, c49, c50, c51, c52, c53, c54, c55, c56, c57, c58, c59, c60, c61, c62, c63, c64, c65, c66, c67, c68, c69, c70, c71, c72, c73, c74, .int .i64 kind, d76, d77, d78, d79, d80, d81, d82, d83, d84, d85, d86, d87, d88, d89, d90, d91, d92, d93, d94, d95, d96, d97, d98, d99, d100, d101, d102, d103, d104, d105, d106, d107, d108, d109, d110, d111, d112, d113, d114, d115, d116, d117, d118, d119, d120, d121, d122, d123, d124, d125, d126, d127, d128, d129, d130, d131, d132, d133, d134, d135, d136, d137, d138, d139, d140, d141, d142, d143, d144, d145, d146, d147, d148, d149, d150, d151, d152, d153, d154, d155, d156, d157, d158, d159, d160, d161, d162, d163, d164, d165, d166, d167, d168, d169, d170, d171, d172, d173, d174, d175, d176, d177, d178, d179, d180, d181, d182, d183, d184, d185, d186, d187, d188, d189, d190, d191, d192, d193, d194, d195, d196, d197, d198, d199, d200, d201, d202, d203, d204, d205, d206, d207, d208, d209, d210, d211, d212, d213, d214, d215, d216, d217, d218, d219, d220, d221, d222, d223, d224, d225, d226, d227, d228, d229, d230, c231, c232, c233, c234, c235, c236, c237, c238, c239, c240, c241, c242, c243, c244, c245, c246, c247, c248, c249, c250, c251, c252, c253, c254, c255, c256, c257, c258, c259, c260, c261, c262, c263], []⟩ wE)) :
    Code.wp Try.prog ((Try.f4.body.bind (blkAt 4)).getD .skip) (Nrm F) ⟨#[c0, c1, c2, c3, c4, .pointer (some ⟨gd, 0, none⟩), .pointer (some ⟨gl, 0, none⟩), c7, c8, .pointer (some ⟨g9, 0, none⟩), .int .i64 (on : Int), .bool true, c12, c13, c14, c15, c16, c17, c18, c19, c20, c21, c22, c23, c24, c25, c26, c27, c28, c29, c30, c31, c32, c33, c34, c35, c36, c37, c38, c39, c40, c41, c42, c43, c44, c45, c46, c47, c48, c49, c50, c51, c52, c53, c54, c55, c56, c57, c58, c59, c60, c61, c62, c63, c64, c65, c66, c67, c68, c69, c70, c71, c72, c73, c74, .int .i64 kind, c76, c77, c78, c79, c80, c81, c82, c83, c84, c85, c86, c87, c88, c89, c90, c91, c92, c93, c94, c95, c96, c97, c98, c99, c100, c101, c102, c103, c104, c105, c106, c107, c108, c109, c110, c111, c112, c113, c114, c115, c116, c117, c118, c119, c120, c121, c122, c123, c124, c125, c126, c127, c128, c129, c130, c131, c132, c133, c134, c135, c136, c137, c138, c139, c140, c141, c142, c143, c144, c145, c146, c147, c148, c149, c150, c151, c152, c153, c154, c155, c156, c157, c158, c159, c160, c161, c162, c163, c164, c165, c166, c167, c168, c169, c170, c171, c172, c173, c174, c175, c176, c177, c178, c179, c180, c181, c182, c183, c184, c185, c186, c187, c188, c189, c190, c191, c192, c193, c194, c195, c196, c197, c198, c199, c200, c201, c202, c203, c204, c205, c206, c207, c208, c209, c210, c211, c212, c213, c214, c215, c216, c217, c218, c219, c220, c221, c222, c223, c224, c225, c226, c227, c228, c229, c230, c231, c232, c233, c234, c235, c236, c237, c238, c239, c240, c241, c242, c243, c244, c245, c246, c247, c248, c249, c250, c251, c252, c253, c254, c255, c256, c257, c258, c259, c260, c261, c262, c263], []⟩ w := by
  conv => arg 2; whnf
  obtain ⟨p, m, L, last, a, n, c, R, p', m', L', last', a', n', c', R', V, hb1, hb2, hT9⟩ := hP.out
  subst hkind
  have hon := V.on2
  have hon0 : (0 : Int) ≤ (on : Int) := by omega
  have hon2 : (on : Int) < 2 := by omega
  have hbw : base ≤ w.heap.size := by have h1 := V.bs.1; have h2 := V.sd.net.lt; omega

  rcases (show on = 0 ∨ on = 1 by omega) with rfl | rfl
  · skip
    replace V := hid V
    have hne : ¬ gd = gl := V.out.ne.2.2.2.2.2.2.2.2.2.2.2.2
    have hne2 : ¬ gl = gd := fun e => hne e.symm
    have bd := drew_below w
    have U := V.out.below bd
    have c0 : w.drew.cell? ⟨gd, 0, none⟩ = some (.pointer (some ⟨p, 0, none⟩)) := U.dcell
    have l0 : w.drew.cell? ⟨gl, 0, none⟩ = some (.slice a n c) := U.lcell0
    have l1 : w.drew.cell? ⟨gl, 1, none⟩ = some (.int .i64 (last : Int)) := U.lcell1
    have kC := hid (copyn_any w.drew U.sd.net)
    clear U
    have hfacts := hid (show ∀ w8, Below w.drew.heap.size w.drew w8 → w8.cell? ⟨gd, 0, none⟩ = some (.pointer (some ⟨p, 0, none⟩)) ∧ w8.cell? ⟨gl, 0, none⟩ = some (.slice a n c) ∧ w8.cell? ⟨gl, 1, none⟩ = some (.int .i64 (last : Int)) ∧ w8.cell? ⟨gd, 1, none⟩ = some (.pointer (some ⟨p', 0, none⟩)) ∧ w8.cell? ⟨gl, 2, none⟩ = some (.slice a' n' c') ∧ w8.cell? ⟨gl, 3, none⟩ = some (.int .i64 (last' : Int)) ∧ w8.frozen? ⟨gd, 1, none⟩ = false ∧ w8.frozen? ⟨gl, 2, none⟩ = false ∧ w8.frozen? ⟨gl, 3, none⟩ = false ∧ gd < w8.heap.size ∧ gl < w8.heap.size from fun w8 h8 => by
      have U := (V.out.below (bnext bd h8))
      exact ⟨U.dcell, U.lcell0, U.lcell1, U.flip.dcell, U.flip.lcell0, U.flip.lcell1, U.dfree _, U.lfree _, U.lfree _, U.dlt, U.llt⟩)
    go_wp2_with fail
    go_region_held (fun W : World => W.cell? ⟨gd, 0, none⟩ = some (.pointer (some ⟨p, 0, none⟩)) ∧ W.cell? ⟨gl, 0, none⟩ = some (.slice a n c) ∧ W.cell? ⟨gl, 1, none⟩ = some (.int .i64 (last : Int))) (first | exact ⟨c0, l0, l1⟩ | exact ⟨d0, d1, d2⟩ | exact ⟨(cell_ne d0 (by dsimp only; omega)), (cell_ne d1 (by dsimp only; omega)), (cell_ne d2 (by dsimp only; omega))⟩ | exact ⟨(cell_ne (cell_ne (cell_ne d0 (by dsimp only; omega)) (by dsimp only; omega)) (by dsimp only; omega)), (cell_ne (cell_ne (cell_ne d1 (by dsimp only; omega)) (by dsimp only; omega)) (by dsimp only; omega)), (cell_ne (cell_ne (cell_ne d2 (by dsimp only; omega)) (by dsimp only; omega)) (by dsimp only; omega))⟩)
      (first | (go_at_call 23; refine kC.out.mono ?_; rintro e w8 ⟨p2, m2, rfl, hp2, hm2, hN2, hb8⟩; obtain ⟨d0, d1, d2, d3, d4, d5, d6, d7, d8, d9, d10⟩ := hfacts.out w8 hb8; replace hN2 := hid hN2))
    all_goals
      have hfin := hid (V.out.copied (bnext bd hb8) hp2 hm2 hN2.out hbw)
      have hPN : PN base gd gl 0 _ (b + 1) := ⟨_, _, _, _, _, _, _, _, _, _, _, _, _, _, _, _, hfin.out.1, by omega, by omega⟩
      exact hN.out _ _ _ _ _ _ _ _ _ _ _ _ _ _ _ _ _ _ _ _ _ _ _ _ _ _ _ _ _ _ _ _ _ _ _ _ _ _ _ _ _ _ _ _ _ _ _ _ _ _ _ _ _ _ _ _ _ _ _ _ _ _ _ _ _ _ _ _ _ _ _ _ _ _ _ _ _ _ _ _ _ _ _ _ _ _ _ _ _ _ _ _ _ _ _ _ _ _ _ _ _ _ _ _ _ _ _ _ _ _ _ _ _ _ _ _ _ _ _ _ _ _ _ _ _ _ _ _ _ _ _ _ _ _ _ _ _ _ _ _ _ _ _ _ _ _ _ _ _ _ _ _ _ _ _ _ _ _ _ _ _ _ _ _ _ _ _ _ _ _ _ _ _ _ _ _ hPN hfin.out.2

  · skip
    replace V := hid V
    have hne : ¬ gd = gl := V.out.ne.2.2.2.2.2.2.2.2.2.2.2.2
    have hne2 : ¬ gl = gd := fun e => hne e.symm
    have bd := drew_below w
    have U := V.out.below bd
    have c0 : w.drew.cell? ⟨gd, 1, none⟩ = some (.pointer (some ⟨p, 0, none⟩)) := U.dcell
    have l0 : w.drew.cell? ⟨gl, 2, none⟩ = some (.slice a n c) := U.lcell0
    have l1 : w.drew.cell? ⟨gl, 3, none⟩ = some (.int .i64 (last : Int)) := U.lcell1
    have kC := hid (copyn_any w.drew U.sd.net)
    clear U
    have hfacts := hid (show ∀ w8, Below w.drew.heap.size w.drew w8 → w8.cell? ⟨gd, 1, none⟩ = some (.pointer (some ⟨p, 0, none⟩)) ∧ w8.cell? ⟨gl, 2, none⟩ = some (.slice a n c) ∧ w8.cell? ⟨gl, 3, none⟩ = some (.int .i64 (last : Int)) ∧ w8.cell? ⟨gd, 0, none⟩ = some (.pointer (some ⟨p', 0, none⟩)) ∧ w8.cell? ⟨gl, 0, none⟩ = some (.slice a' n' c') ∧ w8.cell? ⟨gl, 1, none⟩ = some (.int .i64 (last' : Int)) ∧ w8.frozen? ⟨gd, 0, none⟩ = false ∧ w8.frozen? ⟨gl, 0, none⟩ = false ∧ w8.frozen? ⟨gl, 1, none⟩ = false ∧ gd < w8.heap.size ∧ gl < w8.heap.size from fun w8 h8 => by
      have U := (V.out.below (bnext bd h8))
      exact ⟨U.dcell, U.lcell0, U.lcell1, U.flip.dcell, U.flip.lcell0, U.flip.lcell1, U.dfree _, U.lfree _, U.lfree _, U.dlt, U.llt⟩)
    go_wp2_with fail
    go_region_held (fun W : World => W.cell? ⟨gd, 1, none⟩ = some (.pointer (some ⟨p, 0, none⟩)) ∧ W.cell? ⟨gl, 2, none⟩ = some (.slice a n c) ∧ W.cell? ⟨gl, 3, none⟩ = some (.int .i64 (last : Int))) (first | exact ⟨c0, l0, l1⟩ | exact ⟨d0, d1, d2⟩ | exact ⟨(cell_ne d0 (by dsimp only; omega)), (cell_ne d1 (by dsimp only; omega)), (cell_ne d2 (by dsimp only; omega))⟩ | exact ⟨(cell_ne (cell_ne (cell_ne d0 (by dsimp only; omega)) (by dsimp only; omega)) (by dsimp only; omega)), (cell_ne (cell_ne (cell_ne d1 (by dsimp only; omega)) (by dsimp only; omega)) (by dsimp only; omega)), (cell_ne (cell_ne (cell_ne d2 (by dsimp only; omega)) (by dsimp only; omega)) (by dsimp only; omega))⟩)
      (first | (go_at_call 23; refine kC.out.mono ?_; rintro e w8 ⟨p2, m2, rfl, hp2, hm2, hN2, hb8⟩; obtain ⟨d0, d1, d2, d3, d4, d5, d6, d7, d8, d9, d10⟩ := hfacts.out w8 hb8; replace hN2 := hid hN2))
    all_goals
      have hfin := hid (V.out.copied (bnext bd hb8) hp2 hm2 hN2.out hbw)
      have hPN : PN base gd gl 1 _ (b + 1) := ⟨_, _, _, _, _, _, _, _, _, _, _, _, _, _, _, _, hfin.out.1, by omega, by omega⟩
      exact hN.out _ _ _ _ _ _ _ _ _ _ _ _ _ _ _ _ _ _ _ _ _ _ _ _ _ _ _ _ _ _ _ _ _ _ _ _ _ _ _ _ _ _ _ _ _ _ _ _ _ _ _ _ _ _ _ _ _ _ _ _ _ _ _ _ _ _ _ _ _ _ _ _ _ _ _ _ _ _ _ _ _ _ _ _ _ _ _ _ _ _ _ _ _ _ _ _ _ _ _ _ _ _ _ _ _ _ _ _ _ _ _ _ _ _ _ _ _ _ _ _ _ _ _ _ _ _ _ _ _ _ _ _ _ _ _ _ _ _ _ _ _ _ _ _ _ _ _ _ _ _ _ _ _ _ _ _ _ _ _ _ _ _ _ _ _ _ _ _ _ _ _ _ _ _ _ _ hPN hfin.out.2

end Go.Proofs.Ytgjjgfppolmkoaa
