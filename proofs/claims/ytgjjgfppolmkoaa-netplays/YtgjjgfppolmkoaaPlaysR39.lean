/- NetPlays: behind one operation. -/
import Derived.Test.YtgjjgfppolmkoaaPlaysC3
import Derived.Deep.RegionHeld
import Derived.Deep.CutBlock
namespace Go.Proofs.Ytgjjgfppolmkoaa
open Go.RowKit Go.Maps
set_option linter.unusedVariables false

theorem listed {T : Nat → Prop} {w : World} {p m last n c : Nat} {a : Option Addr} {L R Q : List Pk} (hf : Q.map Pk.flat = L.map Pk.flat) (h : Side T w p m L last a n c R) : Q.length = n := by
  have h1 := congrArg List.length hf
  rw [List.length_map, List.length_map, h.len] at h1
  exact h1

theorem cells2 {base gd gl : Nat} {w : World} {p m : Nat} {L : List Pk} {last : Nat} {a : Option Addr} {n c : Nat} {R : List Pk} {p' m' : Nat} {L' : List Pk} {last' : Nat} {a' : Option Addr} {n' c' : Nat} {R' : List Pk} (V : View base gd gl 0 w p m L last a n c R p' m' L' last' a' n' c' R') : w.cell? ⟨gd, 0, none⟩ = some (.pointer (some ⟨p, 0, none⟩)) ∧ w.cell? ⟨gd, 1, none⟩ = some (.pointer (some ⟨p', 0, none⟩)) ∧ w.cell? ⟨gl, 0, none⟩ = some (.slice a n c) ∧ w.cell? ⟨gl, 2, none⟩ = some (.slice a' n' c') :=
  ⟨V.dcell, V.flip.dcell, V.lcell0, V.flip.lcell0⟩

set_option maxRecDepth 1000000 in
set_option maxHeartbeats 8000000 in
theorem plays_r39 {F : Act → World → Prop} {w : World} {base gd gl on b : Nat} {c0 c1 c2 c3 c4 c7 c8 c9 c12 c13 c14 c15 c16 c17 c18 c19 c20 c21 c22 c23 c24 c25 c26 c27 c28 c29 c30 c31 c32 c33 c34 c35 c36 c37 c38 c39 c40 c41 c42 c43 c44 c45 c46 c47 c48 c49 c50 c51 c52 c53 c54 c55 c56 c57 c58 c59 c60 c61 c62 c63 c64 c65 c66 c67 c68 c69 c70 c71 c72 c73 c74 c75 c76 c77 c78 c79 c80 c81 c82 c83 c84 c85 c86 c87 c88 c89 c90 c91 c92 c93 c94 c95 c96 c97 c98 c99 c100 c101 c102 c103 c104 c105 c106 c107 c108 c109 c110 c111 c112 c113 c114 c115 c116 c117 c118 c119 c120 c121 c122 c123 c124 c125 c126 c127 c128 c129 c130 c131 c132 c133 c134 c135 c136 c137 c138 c139 c140 c141 c142 c143 c144 c145 c146 c147 c148 c149 c150 c151 c152 c153 c154 c155 c156 c157 c158 c159 c160 c161 c162 c163 c164 c165 c166 c167 c168 c169 c170 c171 c172 c173 c174 c175 c176 c177 c178 c179 c180 c181 c182 c183 c184 c185 c186 c187 c188 c189 c190 c191 c192 c193 c194 c195 c196 c197 c198 c199 c200 c201 c202 c203 c204 c205 c206 c207 c208 c209 c210 c211 c212 c213 c214 c215 c216 c217 c218 c219 c220 c221 c222 c223 c224 c225 c226 c227 c228 c229 c230 c231 c232 c233 c234 c235 c236 c237 c238 c239 c240 c241 c242 c243 c244 c245 c246 c247 c248 c249 c250 c251 c252 c253 c254 c255 c256 c257 c258 c259 c260 c261 c262 c263 : Value}
    (hP : Hid (PN base gd gl on w b)) (hb : b ≤ 1000)
    (hN : Hid (∀ (d231 d232 d233 d234 d235 d236 d237 d238 d239 d240 d241 d242 d243 : Value) (wE : World), PN base gd gl on wE b → Below base w wE → F ⟨#[c0, c1, c2, c3, c4, .pointer (some ⟨gd, 0, none⟩), .pointer (some ⟨gl, 0, none⟩), c7, c8, c9, .int .i64 (on : Int), .bool true, c12, c13, c14, c15, c16, c17, c18, c19, c20, c21, c22, c23, c24, c25, c26, c27, c28, c29, c30, c31, c32, c33, c34, c35, c36, c37, c38, c39, c40, c41, c42, c43, c44, c45, c46, c47, c48, c49, c50, c51, c52, c53, c54, c55, c56, c57, c58, c59, c60, c61, c62, c63, c64, c65, c66, c67, c68, c69, c70, c71, c72, c73, c74, c75, c76, c77, c78, c79, c80, c81, c82, c83, c84, c85, c86, c87, c88, c89, c90, c91, c92, c93, c94, c95, c96, c97, c98, c99, c100, c101, c102, c103, c104, c105, c106, c107, c108, c109, c110, c111, c112, c113, c114, c115, c116, c117, c118, c119, c120, c121, c122, c123, c124, c125, c126, c127, c128, c129, c130, c131, c132, c133, c134, c135, c136, c137, c138, c139, c140, c141, c142, c143, c144, c145, c146, c147, c148, c149, c150, c151, c152, c153, c154, c155, c156, c157, c158, c159, c160, c161, c162, c163, c164, c165, c166, c167, c168, c169, c170, c171, c172, c173, c174, c175, c176, c177, c178, c179, c180, c181, c182, c183, c184, c185, c186, c187, c188, c189, c190, c191, c192, c193, c194, c195, c196, c197, c198, c199, c200, c201, c202, c203, c204, c205, c206, c207, c208, c209, c210, c211, c212, c213, c214, c215, c216, c217, c218, c219, c220, c221, c222, c223, c224, c225, c226, c227, c228, c229, c230, d231, d232, d233, d234, d235, d236, d237, d238, d239, d240, d241, d242, d243, .bool false, c245, c246, c247, c248, c249, c250, c251, c252, c253, c254, c255, c256, c257, c258, c259, c260, c261, c262, c263], []⟩ wE)) :
    Code.wp Try.prog ((Try.f4.body.bind (regAt 39)).getD .skip) (Nrm F) ⟨#[c0, c1, c2, c3, c4, .pointer (some ⟨gd, 0, none⟩), .pointer (some ⟨gl, 0, none⟩), c7, c8, c9, .int .i64 (on : Int), .bool true, c12, c13, c14, c15, c16, c17, c18, c19, c20, c21, c22, c23, c24, c25, c26, c27, c28, c29, c30, c31, c32, c33, c34, c35, c36, c37, c38, c39, c40, c41, c42, c43, c44, c45, c46, c47, c48, c49, c50, c51, c52, c53, c54, c55, c56, c57, c58, c59, c60, c61, c62, c63, c64, c65, c66, c67, c68, c69, c70, c71, c72, c73, c74, c75, c76, c77, c78, c79, c80, c81, c82, c83, c84, c85, c86, c87, c88, c89, c90, c91, c92, c93, c94, c95, c96, c97, c98, c99, c100, c101, c102, c103, c104, c105, c106, c107, c108, c109, c110, c111, c112, c113, c114, c115, c116, c117, c118, c119, c120, c121, c122, c123, c124, c125, c126, c127, c128, c129, c130, c131, c132, c133, c134, c135, c136, c137, c138, c139, c140, c141, c142, c143, c144, c145, c146, c147, c148, c149, c150, c151, c152, c153, c154, c155, c156, c157, c158, c159, c160, c161, c162, c163, c164, c165, c166, c167, c168, c169, c170, c171, c172, c173, c174, c175, c176, c177, c178, c179, c180, c181, c182, c183, c184, c185, c186, c187, c188, c189, c190, c191, c192, c193, c194, c195, c196, c197, c198, c199, c200, c201, c202, c203, c204, c205, c206, c207, c208, c209, c210, c211, c212, c213, c214, c215, c216, c217, c218, c219, c220, c221, c222, c223, c224, c225, c226, c227, c228, c229, c230, c231, c232, c233, c234, c235, c236, c237, c238, c239, c240, c241, c242, c243, c244, c245, c246, c247, c248, c249, c250, c251, c252, c253, c254, c255, c256, c257, c258, c259, c260, c261, c262, c263], []⟩ w := by
  conv => arg 2; whnf
  obtain ⟨p, m, L, last, a, n, c, R, p', m', L', last', a', n', c', R', V, hb1, hb2⟩ := hP.out
  have hbs : base ≤ w.heap.size := by have := V.bs.2.2.2.2.1; have := V.dlt; omega
  have hon := V.on2
  have V2 := V.below (drew_below w)
  have c0 : w.drew.cell? ⟨gd, on, none⟩ = some (.pointer (some ⟨p, 0, none⟩)) := V2.dcell
  have c1 := V2.lcell0
  have hLn : L.length ≤ 1000000 := by rw [V2.sd.len]; have := V2.sd.le; omega
  have hn2 := V2.sd.le
  have o0 : (0 : Int) ≤ (on : Int) := by omega
  have o2 : (on : Int) < 2 := by omega
  clear V
  replace V2 := hid V2
  go_region_held (fun W : World => W.cell? ⟨gd, on, none⟩ = some (.pointer (some ⟨p, 0, none⟩)) ∧ W.cell? ⟨gl, on * 2, none⟩ = some (.slice a n c)) (first | exact ⟨c0, c1⟩ | exact ⟨d0, d3⟩ | exact ⟨f0, f1⟩)
    (first
      | (go_at_call 14; refine (list_any _ V2.out.sd.net hLn (by omega)).mono ?_; rintro e w7 ⟨v7, Q7, rfl, hf7, hr7, b7⟩; obtain ⟨a7, c7, e7, _⟩ := owns_form hr7.row; subst e7; have V3 := V2.out.below b7; have hQn : Q7.length = n := listed hf7 V3.sd; rw [hQn] at hr7; rw [hQn]; have d0 : w7.cell? ⟨gd, on, none⟩ = some (.pointer (some ⟨p, 0, none⟩)) := V3.dcell; have d3 := V3.lcell0; replace V3 := hid V3; replace hr7 := hid hr7; replace hf7 := hid hf7; replace hQn := hid hQn)
      | (go_at_call 21; refine (samep_any a7 a n c7 c Q7 R _ hQn.out (hf7.out.trans V3.out.sd.same) hr7.out.rat V3.out.sd.rat (by omega)).mono ?_; rintro e w8 ⟨rfl, b8⟩; have V4 := V3.out.below b8; have f0 : w8.cell? ⟨gd, on, none⟩ = some (.pointer (some ⟨p, 0, none⟩)) := V4.dcell; have f1 := V4.lcell0; replace V4 := hid V4))
  all_goals
    exact hN.out _ _ _ _ _ _ _ _ _ _ _ _ _ _ ⟨_, _, _, _, _, _, _, _, _, _, _, _, _, _, _, _, V4.out, hb1, hb2⟩ (((((drew_below w).mono (Nat.le_refl _)).trans b7).trans (b8.mono b7.size)).mono hbs)

end Go.Proofs.Ytgjjgfppolmkoaa
