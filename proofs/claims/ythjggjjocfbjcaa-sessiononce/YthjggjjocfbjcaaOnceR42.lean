/- SessionOnce: a packet is taken out of its row. -/
import Derived.Test.YthjggjjocfbjcaaOnceC
import Derived.Deep.CutBlock
import Derived.Deep.DeepCutAuto
import Derived.Deep.DrawnRows
import Derived.BigQuiet
import Derived.Deep.RegionHeld3
import Derived.Tactics
namespace Go.Proofs.Ythjggjjocfbjcaa
open Go.RowKit
set_option linter.unusedVariables false

set_option maxRecDepth 1000000 in
set_option maxHeartbeats 8000000 in
theorem once_r42 {F : Act → World → Prop} {g jj tb tl tcap ol c9 : Nat} {a9 y : Option Addr} {W7 w8 : World} {c0 c1 c2 c4 c5 c6 c7 c8 c10 c11 c12 c13 c15 c16 c17 c18 c19 c20 c21 c22 c23 c24 c25 c26 c27 c28 c29 c30 c31 c32 c33 c34 c35 c36 c37 c38 c39 c40 c41 c42 c43 c44 c45 c46 c47 c48 c49 c50 c51 c52 c53 c54 c55 c56 c57 c58 c59 c60 c61 c62 c63 c64 c65 c66 c67 c68 c69 c70 c71 c72 c73 c74 c75 c76 c77 c78 c79 c80 c81 c82 c83 c84 c85 c86 c87 c88 c89 c90 c91 c92 c93 c94 c95 c96 c97 c98 c99 c100 c101 c102 c103 c104 c105 c106 c107 c108 c109 c110 c111 c112 c113 c114 c115 c116 c117 c118 c119 c120 c121 c122 c123 c124 c125 c126 c127 c128 c129 c130 c131 c132 c133 c134 c135 c136 c137 c138 c139 c140 c141 c142 c143 c144 c145 c146 c147 c148 c149 c150 c151 c152 c153 c154 c155 c156 c157 c158 c159 c160 c161 c162 c163 c164 c165 c166 c167 c168 c169 c170 c171 c172 c173 c174 c175 c176 c177 c178 c179 c180 c181 c182 c183 c184 c185 c186 c187 c188 c189 c190 c191 c192 c193 c194 c195 c196 c197 c198 c199 c200 c201 c202 c203 c204 c205 c206 c207 c208 c209 c210 c211 c212 c213 c214 c215 c216 c217 c218 c219 c220 c221 c222 c223 c224 c225 c226 c227 c228 c229 c230 c231 c232 c233 c234 c235 c236 c237 c238 c239 c240 c241 c242 c243 c244 c245 c246 c247 c248 c249 c250 c251 c252 c253 c254 c255 c256 c257 c258 c259 c260 c261 c262 cc9 : Value}
    (yt7 : W7.drew.cell? ⟨g, 17, none⟩ = some (.slice (some ⟨tb, 0, none⟩) tl tcap)) (yf7 : W7.drew.frozen? ⟨g, 17, none⟩ = false) (yt8 : w8.cell? ⟨g, 17, none⟩ = some (.slice (some ⟨tb, 0, none⟩) tl tcap)) (yf8 : w8.frozen? ⟨g, 17, none⟩ = false) (glt : g < W7.drew.heap.size)
    (htb : tl ≤ 1000) (hc2 : jj + 1 ≤ tl) (hc4 : tl ≤ tcap) (hy : (if tcap = jj + 1 then some (⟨tb, 0, none⟩ : Addr) else some ⟨tb, (jj + 1) * 3, none⟩) = y)
    (hrun : Hid ((Builtin.append_ #[61, 61] 61 #[.slice (some ⟨tb, 0, none⟩) jj jj, .slice y (tl - (jj + 1)) (tcap - (jj + 1))]).run Try.prog W7.drew = .ok (.slice a9 ol c9) w8))
    (hQ : Hid (∀ d219 d220 d221 d222 d223 d224 d225 d226 d227 d228 d229 d230 d231 d232 d233 d234 d235 d236 : Value, F ⟨#[c0, c1, c2, .pointer (some ⟨g, 0, none⟩), c4, c5, c6, c7, c8, cc9, c10, c11, c12, c13, .int .i64 (jj : Int), c15, c16, c17, c18, c19, c20, c21, c22, c23, c24, c25, c26, c27, c28, c29, c30, c31, c32, c33, c34, c35, c36, c37, c38, c39, c40, c41, c42, c43, c44, c45, c46, c47, c48, c49, c50, c51, c52, c53, c54, c55, c56, c57, c58, c59, c60, c61, c62, c63, c64, c65, c66, c67, c68, c69, c70, c71, c72, c73, c74, c75, c76, c77, c78, c79, c80, c81, c82, c83, c84, c85, c86, c87, c88, c89, c90, c91, c92, c93, c94, c95, c96, c97, c98, c99, c100, c101, c102, c103, c104, c105, c106, c107, c108, c109, c110, c111, c112, c113, c114, c115, c116, c117, c118, c119, c120, c121, c122, c123, c124, c125, c126, c127, c128, c129, c130, c131, c132, c133, c134, c135, c136, c137, c138, c139, c140, c141, c142, c143, c144, c145, c146, c147, c148, c149, c150, c151, c152, c153, c154, c155, c156, c157, c158, c159, c160, c161, c162, c163, c164, c165, c166, c167, c168, c169, c170, c171, c172, c173, c174, c175, c176, c177, c178, c179, c180, c181, c182, c183, c184, c185, c186, c187, c188, c189, c190, c191, c192, c193, c194, c195, c196, c197, c198, c199, c200, c201, c202, c203, c204, c205, c206, c207, c208, c209, c210, c211, c212, c213, c214, c215, c216, c217, c218, d219, d220, d221, d222, d223, d224, d225, d226, d227, d228, d229, d230, d231, d232, d233, d234, d235, d236, c237, c238, c239, c240, c241, c242, c243, c244, c245, c246, c247, c248, c249, c250, c251, c252, c253, c254, c255, c256, c257, c258, c259, c260, c261, c262], []⟩ (w8.setCell ⟨g, 17, none⟩ (.slice a9 ol c9)))) :
    Code.wp Try.prog ((Try.f6.body.bind (regAt 42)).getD .skip) (Nrm F) ⟨#[c0, c1, c2, .pointer (some ⟨g, 0, none⟩), c4, c5, c6, c7, c8, cc9, c10, c11, c12, c13, .int .i64 (jj : Int), c15, c16, c17, c18, c19, c20, c21, c22, c23, c24, c25, c26, c27, c28, c29, c30, c31, c32, c33, c34, c35, c36, c37, c38, c39, c40, c41, c42, c43, c44, c45, c46, c47, c48, c49, c50, c51, c52, c53, c54, c55, c56, c57, c58, c59, c60, c61, c62, c63, c64, c65, c66, c67, c68, c69, c70, c71, c72, c73, c74, c75, c76, c77, c78, c79, c80, c81, c82, c83, c84, c85, c86, c87, c88, c89, c90, c91, c92, c93, c94, c95, c96, c97, c98, c99, c100, c101, c102, c103, c104, c105, c106, c107, c108, c109, c110, c111, c112, c113, c114, c115, c116, c117, c118, c119, c120, c121, c122, c123, c124, c125, c126, c127, c128, c129, c130, c131, c132, c133, c134, c135, c136, c137, c138, c139, c140, c141, c142, c143, c144, c145, c146, c147, c148, c149, c150, c151, c152, c153, c154, c155, c156, c157, c158, c159, c160, c161, c162, c163, c164, c165, c166, c167, c168, c169, c170, c171, c172, c173, c174, c175, c176, c177, c178, c179, c180, c181, c182, c183, c184, c185, c186, c187, c188, c189, c190, c191, c192, c193, c194, c195, c196, c197, c198, c199, c200, c201, c202, c203, c204, c205, c206, c207, c208, c209, c210, c211, c212, c213, c214, c215, c216, c217, c218, c219, c220, c221, c222, c223, c224, c225, c226, c227, c228, c229, c230, c231, c232, c233, c234, c235, c236, c237, c238, c239, c240, c241, c242, c243, c244, c245, c246, c247, c248, c249, c250, c251, c252, c253, c254, c255, c256, c257, c258, c259, c260, c261, c262], []⟩ W7 := by
  conv => arg 2; whnf
  have hc1 : jj ≤ tcap := by omega
  have hc3 : jj + 1 ≤ tcap := by omega
  have hc5 : (0 : Int) ≤ (jj : Int) + 1 := by omega
  have hc6 : (jj : Int) + 1 ≤ (tl : Int) := by omega
  have j0 : (0 : Int) ≤ (jj : Int) := by omega
  have j1 : (jj : Int) < (tl : Int) := by omega
  have hjw : IntKind.i64.wrap ((jj : Int) + 1) = (jj : Int) + 1 := by rw [IntKind.wrap_i64]; omega
  go_region_law (first
    | (refine step_ap3 (by rfl) (.tmp 226) (.tmp 233) 61 (by rfl) (by rfl) (.slice (some ⟨tb, 0, none⟩) jj jj) (.slice y (tl - (jj + 1)) (tcap - (jj + 1))) _ (by rfl) (by rfl) hrun.out ?_))
  all_goals exact hQ.out _ _ _ _ _ _ _ _ _ _ _ _ _ _ _ _ _ _

end Go.Proofs.Ythjggjjocfbjcaa
