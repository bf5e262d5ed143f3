/- NetPlays: the end. -/
import Derived.Test.YtgjjgfppolmkoaaPlaysR39
import Derived.Deep.RegionHeld
import Derived.Deep.CutBlock
namespace Go.Proofs.Ytgjjgfppolmkoaa
open Go.RowKit Go.Maps
set_option linter.unusedVariables false

set_option maxRecDepth 1000000 in
set_option maxHeartbeats 8000000 in
theorem plays_r41 {F : Act → World → Prop} {w : World} {base gd gl b : Nat} {c0 c1 c2 c3 c4 c7 c8 c9 c10 c11 c12 c13 c14 c15 c16 c17 c18 c19 c20 c21 c22 c23 c24 c25 c26 c27 c28 c29 c30 c31 c32 c33 c34 c35 c36 c37 c38 c39 c40 c41 c42 c43 c44 c45 c46 c47 c48 c49 c50 c51 c52 c53 c54 c55 c56 c57 c58 c59 c60 c61 c62 c63 c64 c65 c66 c67 c68 c69 c70 c71 c72 c73 c74 c75 c76 c77 c78 c79 c80 c81 c82 c83 c84 c85 c86 c87 c88 c89 c90 c91 c92 c93 c94 c95 c96 c97 c98 c99 c100 c101 c102 c103 c104 c105 c106 c107 c108 c109 c110 c111 c112 c113 c114 c115 c116 c117 c118 c119 c120 c121 c122 c123 c124 c125 c126 c127 c128 c129 c130 c131 c132 c133 c134 c135 c136 c137 c138 c139 c140 c141 c142 c143 c144 c145 c146 c147 c148 c149 c150 c151 c152 c153 c154 c155 c156 c157 c158 c159 c160 c161 c162 c163 c164 c165 c166 c167 c168 c169 c170 c171 c172 c173 c174 c175 c176 c177 c178 c179 c180 c181 c182 c183 c184 c185 c186 c187 c188 c189 c190 c191 c192 c193 c194 c195 c196 c197 c198 c199 c200 c201 c202 c203 c204 c205 c206 c207 c208 c209 c210 c211 c212 c213 c214 c215 c216 c217 c218 c219 c220 c221 c222 c223 c224 c225 c226 c227 c228 c229 c230 c231 c232 c233 c234 c235 c236 c237 c238 c239 c240 c241 c242 c243 c244 c245 c246 c247 c248 c249 c250 c251 c252 c253 c254 c255 c256 c257 c258 c259 c260 c261 c262 c263 : Value}
    (hP : Hid (PN base gd gl 0 w b)) (hb : b ≤ 1000)
    (hN : Hid (∀ (d245 d246 d247 d248 d249 d250 d251 d252 d253 d254 d255 d256 d257 d258 d259 d260 d261 d262 d263 : Value) (wE : World), Below base w wE → F ⟨#[c0, c1, c2, c3, .bool true, .pointer (some ⟨gd, 0, none⟩), .pointer (some ⟨gl, 0, none⟩), c7, c8, c9, c10, c11, c12, c13, c14, c15, c16, c17, c18, c19, c20, c21, c22, c23, c24, c25, c26, c27, c28, c29, c30, c31, c32, c33, c34, c35, c36, c37, c38, c39, c40, c41, c42, c43, c44, c45, c46, c47, c48, c49, c50, c51, c52, c53, c54, c55, c56, c57, c58, c59, c60, c61, c62, c63, c64, c65, c66, c67, c68, c69, c70, c71, c72, c73, c74, c75, c76, c77, c78, c79, c80, c81, c82, c83, c84, c85, c86, c87, c88, c89, c90, c91, c92, c93, c94, c95, c96, c97, c98, c99, c100, c101, c102, c103, c104, c105, c106, c107, c108, c109, c110, c111, c112, c113, c114, c115, c116, c117, c118, c119, c120, c121, c122, c123, c124, c125, c126, c127, c128, c129, c130, c131, c132, c133, c134, c135, c136, c137, c138, c139, c140, c141, c142, c143, c144, c145, c146, c147, c148, c149, c150, c151, c152, c153, c154, c155, c156, c157, c158, c159, c160, c161, c162, c163, c164, c165, c166, c167, c168, c169, c170, c171, c172, c173, c174, c175, c176, c177, c178, c179, c180, c181, c182, c183, c184, c185, c186, c187, c188, c189, c190, c191, c192, c193, c194, c195, c196, c197, c198, c199, c200, c201, c202, c203, c204, c205, c206, c207, c208, c209, c210, c211, c212, c213, c214, c215, c216, c217, c218, c219, c220, c221, c222, c223, c224, c225, c226, c227, c228, c229, c230, c231, c232, c233, c234, c235, c236, c237, c238, c239, c240, c241, c242, c243, c244, d245, d246, d247, d248, d249, d250, d251, d252, d253, d254, d255, d256, d257, d258, d259, d260, d261, d262, d263], []⟩ wE)) :
    Code.wp Try.prog ((Try.f4.body.bind (regAt 41)).getD .skip) (Nrm F) ⟨#[c0, c1, c2, c3, c4, .pointer (some ⟨gd, 0, none⟩), .pointer (some ⟨gl, 0, none⟩), c7, c8, c9, c10, c11, c12, c13, c14, c15, c16, c17, c18, c19, c20, c21, c22, c23, c24, c25, c26, c27, c28, c29, c30, c31, c32, c33, c34, c35, c36, c37, c38, c39, c40, c41, c42, c43, c44, c45, c46, c47, c48, c49, c50, c51, c52, c53, c54, c55, c56, c57, c58, c59, c60, c61, c62, c63, c64, c65, c66, c67, c68, c69, c70, c71, c72, c73, c74, c75, c76, c77, c78, c79, c80, c81, c82, c83, c84, c85, c86, c87, c88, c89, c90, c91, c92, c93, c94, c95, c96, c97, c98, c99, c100, c101, c102, c103, c104, c105, c106, c107, c108, c109, c110, c111, c112, c113, c114, c115, c116, c117, c118, c119, c120, c121, c122, c123, c124, c125, c126, c127, c128, c129, c130, c131, c132, c133, c134, c135, c136, c137, c138, c139, c140, c141, c142, c143, c144, c145, c146, c147, c148, c149, c150, c151, c152, c153, c154, c155, c156, c157, c158, c159, c160, c161, c162, c163, c164, c165, c166, c167, c168, c169, c170, c171, c172, c173, c174, c175, c176, c177, c178, c179, c180, c181, c182, c183, c184, c185, c186, c187, c188, c189, c190, c191, c192, c193, c194, c195, c196, c197, c198, c199, c200, c201, c202, c203, c204, c205, c206, c207, c208, c209, c210, c211, c212, c213, c214, c215, c216, c217, c218, c219, c220, c221, c222, c223, c224, c225, c226, c227, c228, c229, c230, c231, c232, c233, c234, c235, c236, c237, c238, c239, c240, c241, c242, c243, c244, c245, c246, c247, c248, c249, c250, c251, c252, c253, c254, c255, c256, c257, c258, c259, c260, c261, c262, c263], []⟩ w := by
  conv => arg 2; whnf
  obtain ⟨p, m, L, last, a, n, c, R, p', m', L', last', a', n', c', R', V, hb1, hb2⟩ := hP.out
  have hbs : base ≤ w.heap.size := by have := V.bs.2.2.2.2.1; have := V.dlt; omega
  have V2 := V.below (drew_below w)
  have U2 := V2.flip
  have c0 : w.drew.cell? ⟨gd, 0, none⟩ = some (.pointer (some ⟨p, 0, none⟩)) := V2.dcell
  have c1 : w.drew.cell? ⟨gd, 1, none⟩ = some (.pointer (some ⟨p', 0, none⟩)) := U2.dcell
  have c2 : w.drew.cell? ⟨gl, 0, none⟩ = some (.slice a n c) := V2.lcell0
  have c3 : w.drew.cell? ⟨gl, 2, none⟩ = some (.slice a' n' c') := U2.lcell0
  have hLn : L.length ≤ 1000000 := by rw [V2.sd.len]; have := V2.sd.le; omega
  have hLn' : L'.length ≤ 1000000 := by rw [V2.so.len]; have := V2.so.le; omega
  have hn2 := V2.sd.le
  have hn3 := V2.so.le
  have hbb : last ≤ 1000 ∧ last' ≤ 1000 := ⟨by omega, by omega⟩
  clear hb1 hb2 V
  replace V2 := hid V2
  replace U2 := hid U2
  go_region_held (fun W : World => W.cell? ⟨gd, 0, none⟩ = some (.pointer (some ⟨p, 0, none⟩)) ∧ W.cell? ⟨gd, 1, none⟩ = some (.pointer (some ⟨p', 0, none⟩)) ∧ W.cell? ⟨gl, 0, none⟩ = some (.slice a n c) ∧ W.cell? ⟨gl, 2, none⟩ = some (.slice a' n' c')) (first | exact ⟨c0, c1, c2, c3⟩ | exact cells2 V5.out | exact cells2 V6.out | exact cells2 V7.out | exact cells2 V8.out | exact cells2 V9.out)
    (first
      | (go_at_call 15; refine (awake_any _).mono ?_; rintro e w9 ⟨rfl, b9⟩; have V9 := hid (V8.out.below b9))
      | (go_at_call 21; have hx := b7; refine (samep_any a7 a' n' c7 c' Q7 R' _ hQn7.out (hf7.out.trans V7.out.so.same) hr7.out.rat V7.out.so.rat (by omega)).mono ?_; rintro e w8 ⟨rfl, b8⟩; have V8 := hid (V7.out.below b8))
      | (go_at_call 14; have hx := b6; refine (list_any _ V6.out.so.net hLn' (by omega)).mono ?_; rintro e w7 ⟨v7, Q7, rfl, hf7, hr7, b7⟩; obtain ⟨a7, c7, e7, _⟩ := owns_form hr7.row; subst e7; have V7 := V6.out.below b7; have hQn7 : Q7.length = n' := listed hf7 V7.so; rw [hQn7] at hr7; rw [hQn7]; replace V7 := hid V7; replace hr7 := hid hr7; replace hf7 := hid hf7; replace hQn7 := hid hQn7)
      | (go_at_call 21; have hx := b5; refine (samep_any a5 a n c5 c Q5 R _ hQn5.out (hf5.out.trans V5.out.sd.same) hr5.out.rat V5.out.sd.rat (by omega)).mono ?_; rintro e w6 ⟨rfl, b6⟩; have V6 := hid (V5.out.below b6))
      | (go_at_call 14; refine (list_any _ V2.out.sd.net hLn (by omega)).mono ?_; rintro e w5 ⟨v5, Q5, rfl, hf5, hr5, b5⟩; obtain ⟨a5, c5, e5, _⟩ := owns_form hr5.row; subst e5; have V5 := V2.out.below b5; have hQn5 : Q5.length = n := listed hf5 V5.sd; rw [hQn5] at hr5; rw [hQn5]; replace V5 := hid V5; replace hr5 := hid hr5; replace hf5 := hid hf5; replace hQn5 := hid hQn5))
  all_goals
    have BE := (((((drew_below w).trans b5).trans (b6.mono b5.size)).trans (b7.mono (Nat.le_trans b5.size b6.size))).trans (b8.mono (Nat.le_trans (Nat.le_trans b5.size b6.size) b7.size))).trans (b9.mono (Nat.le_trans (Nat.le_trans (Nat.le_trans b5.size b6.size) b7.size) b8.size))
    exact hN.out _ _ _ _ _ _ _ _ _ _ _ _ _ _ _ _ _ _ _ _ (BE.mono hbs)

end Go.Proofs.Ytgjjgfppolmkoaa
