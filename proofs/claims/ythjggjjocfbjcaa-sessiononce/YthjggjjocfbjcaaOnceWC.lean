/- SessionOnce: one step of its world. -/
import Derived.Test.YthjggjjocfbjcaaOnceC
import Derived.Test.YthjggjjocfbjcaaOnceR42
import Derived.Deep.CutBlock
import Derived.Deep.DeepCutAuto
import Derived.Deep.DrawnRows
import Derived.BigQuiet
import Derived.Deep.RegionHeld3
import Derived.Tactics
namespace Go.Proofs.Ythjggjjocfbjcaa
open Go.RowKit
set_option linter.unusedVariables false

attribute [local go_sem ↓] Go.wp_at_zero Go.wp_at_succ

set_option maxRecDepth 1000000 in
set_option maxHeartbeats 8000000 in
theorem once_wC {F X : Act → World → Prop} {w w6 : World} {g j p k : Nat} {r : Int} {c0 c1 c2 c4 c5 c6 c10 c11 c12 c13 c14 c15 c16 c17 c18 c19 c20 c21 c22 c23 c24 c25 c26 c27 c28 c29 c30 c31 c32 c33 c34 c35 c36 c37 c38 c39 c40 c41 c42 c43 c44 c45 c46 c47 c48 c49 c50 c51 c52 c53 c54 c55 c56 c57 c58 c59 c60 c61 c62 c63 c64 c65 c66 c67 c68 c70 c71 c72 c73 c74 c75 c76 c77 c78 c79 c80 c81 c82 c83 c84 c85 c86 c87 c88 c89 c90 c91 c92 c93 c94 c95 c96 c97 c98 c99 c100 c101 c102 c103 c104 c105 c106 c107 c108 c109 c110 c111 c112 c113 c114 c115 c116 c117 c118 c119 c120 c121 c122 c123 c124 c125 c126 c127 c128 c129 c130 c131 c132 c133 c134 c135 c136 c137 c138 c139 c140 c141 c142 c143 c144 c145 c146 c147 c148 c149 c150 c151 c152 c153 c154 c155 c156 c157 c158 c159 c160 c161 c162 c163 c164 c165 c166 c167 c168 c169 c170 c171 c172 c173 c174 c175 c176 c177 c178 c179 c180 c181 c182 c183 c184 c185 c186 c187 c188 c189 c190 c191 c192 c193 c194 c195 c196 c197 c198 c199 c200 c201 c202 c203 c204 c205 c206 c207 c208 c209 c210 c211 c212 c213 c214 c215 c216 c217 c218 c219 c220 c221 c222 c223 c224 c225 c226 c227 c228 c229 c230 c231 c232 c233 c234 c235 c236 c237 c238 c239 c240 c241 c242 c243 c244 c245 c246 c247 c248 c249 c250 c251 c252 c253 c254 c255 c256 c257 c258 c259 c260 c261 c262 : Value} (hg : Hid (g = w.heap.size)) (hl2 : j < 200) (hk : k < 4) (hp : p < 1000003) (hB : Hid (Below w.heap.size w w6)) (hO : Hid (OI g j w6)) (hrs : r = 3 ∨ r = 4)
    (hN : Hid (∀ (d10 d11 d12 d13 d14 d15 d16 d17 d70 d71 d72 d73 d74 d75 d76 d77 d78 d79 d80 d81 d82 d83 d84 d85 d86 d87 d88 d89 d90 d91 d92 d93 d94 d95 d96 d97 d98 d99 d100 d101 d102 d103 d104 d105 d106 d107 d108 d109 d110 d111 d112 d113 d114 d115 d116 d117 d118 d119 d120 d121 d122 d123 d124 d125 d126 d127 d128 d129 d130 d131 d132 d133 d134 d135 d136 d137 d138 d139 d140 d141 d142 d143 d144 d145 d146 d147 d148 d149 d150 d151 d152 d153 d154 d155 d156 d157 d158 d159 d160 d161 d162 d163 d164 d165 d166 d167 d168 d169 d170 d171 d172 d173 d174 d175 d176 d177 d178 d179 d180 d181 d182 d183 d184 d185 d186 d187 d188 d189 d190 d191 d192 d193 d194 d195 d196 d197 d198 d199 d200 d201 d202 d203 d204 d205 d206 d207 d208 d209 d210 d211 d212 d213 d214 d215 d216 d217 d218 d219 d220 d221 d222 d223 d224 d225 d226 d227 d228 d229 d230 d231 d232 d233 d234 d235 d236 d237 d238 d239 d240 d241 d242 d243 d244 d245 : Value) (wx : World), Hid (Below w.heap.size w wx) → Hid (OI g (j + 1) wx) → F ⟨#[c0, c1, c2, .pointer (some ⟨g, 0, none⟩), c4, c5, c6, .int .i64 (j : Int), .int .i64 (p : Int), .int .i64 (k : Int), d10, d11, d12, d13, d14, d15, d16, d17, c18, c19, c20, c21, c22, c23, c24, c25, c26, c27, c28, c29, c30, c31, c32, c33, c34, c35, c36, c37, c38, c39, c40, c41, c42, c43, c44, c45, c46, c47, c48, c49, c50, c51, c52, c53, c54, c55, c56, c57, c58, c59, c60, c61, c62, c63, c64, c65, c66, c67, c68, .int .i64 r, d70, d71, d72, d73, d74, d75, d76, d77, d78, d79, d80, d81, d82, d83, d84, d85, d86, d87, d88, d89, d90, d91, d92, d93, d94, d95, d96, d97, d98, d99, d100, d101, d102, d103, d104, d105, d106, d107, d108, d109, d110, d111, d112, d113, d114, d115, d116, d117, d118, d119, d120, d121, d122, d123, d124, d125, d126, d127, d128, d129, d130, d131, d132, d133, d134, d135, d136, d137, d138, d139, d140, d141, d142, d143, d144, d145, d146, d147, d148, d149, d150, d151, d152, d153, d154, d155, d156, d157, d158, d159, d160, d161, d162, d163, d164, d165, d166, d167, d168, d169, d170, d171, d172, d173, d174, d175, d176, d177, d178, d179, d180, d181, d182, d183, d184, d185, d186, d187, d188, d189, d190, d191, d192, d193, d194, d195, d196, d197, d198, d199, d200, d201, d202, d203, d204, d205, d206, d207, d208, d209, d210, d211, d212, d213, d214, d215, d216, d217, d218, d219, d220, d221, d222, d223, d224, d225, d226, d227, d228, d229, d230, d231, d232, d233, d234, d235, d236, d237, d238, d239, d240, d241, d242, d243, d244, d245, c246, c247, c248, c249, c250, c251, c252, c253, c254, c255, c256, c257, c258, c259, c260, c261, c262], []⟩ wx))
    (hC : Hid (∀ (d10 d11 d12 d13 d14 d15 d16 d17 d70 d71 d72 d73 d74 d75 d76 d77 d78 d79 d80 d81 d82 d83 d84 d85 d86 d87 d88 d89 d90 d91 d92 d93 d94 d95 d96 d97 d98 d99 d100 d101 d102 d103 d104 d105 d106 d107 d108 d109 d110 d111 d112 d113 d114 d115 d116 d117 d118 d119 d120 d121 d122 d123 d124 d125 d126 d127 d128 d129 d130 d131 d132 d133 d134 d135 d136 d137 d138 d139 d140 d141 d142 d143 d144 d145 d146 d147 d148 d149 d150 d151 d152 d153 d154 d155 d156 d157 d158 d159 d160 d161 d162 d163 d164 d165 d166 d167 d168 d169 d170 d171 d172 d173 d174 d175 d176 d177 d178 d179 d180 d181 d182 d183 d184 d185 d186 d187 d188 d189 d190 d191 d192 d193 d194 d195 d196 d197 d198 d199 d200 d201 d202 d203 d204 d205 d206 d207 d208 d209 d210 d211 d212 d213 d214 d215 d216 d217 d218 d219 d220 d221 d222 d223 d224 d225 d226 d227 d228 d229 d230 d231 d232 d233 d234 d235 d236 d237 d238 d239 d240 d241 d242 d243 d244 d245 : Value) (wx : World), Hid (Below w.heap.size w wx) → Hid (OI g (j + 1) wx) → X ⟨#[c0, c1, c2, .pointer (some ⟨g, 0, none⟩), c4, c5, c6, .int .i64 (j : Int), .int .i64 (p : Int), .int .i64 (k : Int), d10, d11, d12, d13, d14, d15, d16, d17, c18, c19, c20, c21, c22, c23, c24, c25, c26, c27, c28, c29, c30, c31, c32, c33, c34, c35, c36, c37, c38, c39, c40, c41, c42, c43, c44, c45, c46, c47, c48, c49, c50, c51, c52, c53, c54, c55, c56, c57, c58, c59, c60, c61, c62, c63, c64, c65, c66, c67, c68, .int .i64 r, d70, d71, d72, d73, d74, d75, d76, d77, d78, d79, d80, d81, d82, d83, d84, d85, d86, d87, d88, d89, d90, d91, d92, d93, d94, d95, d96, d97, d98, d99, d100, d101, d102, d103, d104, d105, d106, d107, d108, d109, d110, d111, d112, d113, d114, d115, d116, d117, d118, d119, d120, d121, d122, d123, d124, d125, d126, d127, d128, d129, d130, d131, d132, d133, d134, d135, d136, d137, d138, d139, d140, d141, d142, d143, d144, d145, d146, d147, d148, d149, d150, d151, d152, d153, d154, d155, d156, d157, d158, d159, d160, d161, d162, d163, d164, d165, d166, d167, d168, d169, d170, d171, d172, d173, d174, d175, d176, d177, d178, d179, d180, d181, d182, d183, d184, d185, d186, d187, d188, d189, d190, d191, d192, d193, d194, d195, d196, d197, d198, d199, d200, d201, d202, d203, d204, d205, d206, d207, d208, d209, d210, d211, d212, d213, d214, d215, d216, d217, d218, d219, d220, d221, d222, d223, d224, d225, d226, d227, d228, d229, d230, d231, d232, d233, d234, d235, d236, d237, d238, d239, d240, d241, d242, d243, d244, d245, c246, c247, c248, c249, c250, c251, c252, c253, c254, c255, c256, c257, c258, c259, c260, c261, c262], []⟩ wx)) :
    Code.wp Try.prog ((Try.f6.body.bind (blkAt 4)).getD .skip) (Two F X) ⟨#[c0, c1, c2, .pointer (some ⟨g, 0, none⟩), c4, c5, c6, .int .i64 (j : Int), .int .i64 (p : Int), .int .i64 (k : Int), c10, c11, c12, c13, c14, c15, c16, c17, c18, c19, c20, c21, c22, c23, c24, c25, c26, c27, c28, c29, c30, c31, c32, c33, c34, c35, c36, c37, c38, c39, c40, c41, c42, c43, c44, c45, c46, c47, c48, c49, c50, c51, c52, c53, c54, c55, c56, c57, c58, c59, c60, c61, c62, c63, c64, c65, c66, c67, c68, .int .i64 r, c70, c71, c72, c73, c74, c75, c76, c77, c78, c79, c80, c81, c82, c83, c84, c85, c86, c87, c88, c89, c90, c91, c92, c93, c94, c95, c96, c97, c98, c99, c100, c101, c102, c103, c104, c105, c106, c107, c108, c109, c110, c111, c112, c113, c114, c115, c116, c117, c118, c119, c120, c121, c122, c123, c124, c125, c126, c127, c128, c129, c130, c131, c132, c133, c134, c135, c136, c137, c138, c139, c140, c141, c142, c143, c144, c145, c146, c147, c148, c149, c150, c151, c152, c153, c154, c155, c156, c157, c158, c159, c160, c161, c162, c163, c164, c165, c166, c167, c168, c169, c170, c171, c172, c173, c174, c175, c176, c177, c178, c179, c180, c181, c182, c183, c184, c185, c186, c187, c188, c189, c190, c191, c192, c193, c194, c195, c196, c197, c198, c199, c200, c201, c202, c203, c204, c205, c206, c207, c208, c209, c210, c211, c212, c213, c214, c215, c216, c217, c218, c219, c220, c221, c222, c223, c224, c225, c226, c227, c228, c229, c230, c231, c232, c233, c234, c235, c236, c237, c238, c239, c240, c241, c242, c243, c244, c245, c246, c247, c248, c249, c250, c251, c252, c253, c254, c255, c256, c257, c258, c259, c260, c261, c262], []⟩ w6 := by
  conv => arg 2; whnf
  obtain ⟨la, lc, L, A, tv, T, bv, B, rb, R, ctr, hS, hP⟩ := hO.out
  have k0 : (0 : Int) ≤ (k : Int) := by omega
  have k4 : (k : Int) < 4 := by omega
  have r0 : (r == 0) = false := by rcases hrs with e | e <;> rw [e] <;> rfl
  have r1 : (r == 1) = false := by rcases hrs with e | e <;> rw [e] <;> rfl
  have r2 : (r == 2) = false := by rcases hrs with e | e <;> rw [e] <;> rfl
  have hrs' := hid hrs
  clear hrs
  go_upto_if 192 with fail
  go_cut [192] from 193 to 194 (fun v wx => v = .bool true ∧ wx = w6)
  case first =>
    rcases hrs'.out with e | e
    · have r3 : (r == 3) = true := by rw [e]; rfl
      replace e := hid e
      go_wp2_with fail
      go_meet
      exact ⟨by first | rfl | rw [r3], rfl⟩
    · have r3 : (r == 3) = false := by rw [e]; rfl
      have r4 : (r == 4) = true := by rw [e]; rfl
      replace e := hid e
      go_wp2_with fail
      go_meet
      exact ⟨by first | rfl | rw [r4], rfl⟩
  case rest =>
    obtain ⟨rfl, rfl⟩ := hcut
    by_cases hT0 : T = []
    · have OO := hid (show OI g (j + 1) wc from ⟨_, _, _, _, _, _, _, _, _, _, _, hS, hP.mono (by omega)⟩)
      obtain ⟨ta, tc, hte, _⟩ := hS.to.form
      have yt := hS.blk.t
      rw [hte, hT0, List.length_nil] at yt
      replace hte := hid hte
      replace hT0 := hid hT0
      replace hS := hid hS
      replace hP := hid hP
      go_wp2_with fail
      exact ⟨rfl, hC.out _ _ _ _ _ _ _ _ _ _ _ _ _ _ _ _ _ _ _ _ _ _ _ _ _ _ _ _ _ _ _ _ _ _ _ _ _ _ _ _ _ _ _ _ _ _ _ _ _ _ _ _ _ _ _ _ _ _ _ _ _ _ _ _ _ _ _ _ _ _ _ _ _ _ _ _ _ _ _ _ _ _ _ _ _ _ _ _ _ _ _ _ _ _ _ _ _ _ _ _ _ _ _ _ _ _ _ _ _ _ _ _ _ _ _ _ _ _ _ _ _ _ _ _ _ _ _ _ _ _ _ _ _ _ _ _ _ _ _ _ _ _ _ _ _ _ _ _ _ _ _ _ _ _ _ _ _ _ _ _ _ _ _ _ _ _ _ _ _ _ _ _ _ _ _ _ _ _ _ _ _ _ _ _ _ hB OO⟩
    · obtain ⟨tb, tcap, hte, hcap⟩ := hS.to.place hT0
      obtain ⟨tl, htl⟩ : ∃ tl, T.length = tl := ⟨_, rfl⟩
      have htl0 : 0 < tl := by rw [← htl]; exact List.length_pos_iff.2 hT0
      have htb : tl ≤ 1000 := by rw [← htl]; have := hP.tl; omega
      obtain ⟨jj, hjj, hje⟩ : ∃ jj : Nat, jj < tl ∧ (p : Int) / 28 % (tl : Int) = (jj : Int) := ⟨p / 28 % tl, Nat.mod_lt _ htl0, by simp⟩
      have hjT : jj < T.length := by rw [htl]; exact hjj
      obtain ⟨⟨x1, x2, x3⟩, hx⟩ : ∃ x, T[jj] = x := ⟨_, rfl⟩
      have hS0 := hS.to
      rw [hte] at hS0
      have z0 : wc.cell? ⟨tb, jj * 3, none⟩ = some (.int .i64 x1) := by have := hS0.cell jj hjT 0 (by omega); rw [hx] at this; exact this
      have z1 : wc.cell? ⟨tb, jj * 3 + 1, none⟩ = some (.int .i64 x2) := by have := hS0.cell jj hjT 1 (by omega); rw [hx] at this; exact this
      have z2 : wc.cell? ⟨tb, jj * 3 + 2, none⟩ = some (.int .i64 x3) := by have := hS0.cell jj hjT 2 (by omega); rw [hx] at this; exact this
      have yt := hS.blk.t
      rw [hte, htl] at yt
      rw [htl] at hcap
      obtain ⟨kk, hkk, e1, hpk⟩ := hP.to _ (List.getElem_mem hjT)
      rw [hx] at e1 hpk
      dsimp only at e1 hpk
      subst e1
      obtain ⟨q, hqe⟩ : ∃ q : Nat, x2 = (q : Int) := ⟨x2.toNat, by have := hpk.1; omega⟩
      subst hqe
      have dl : ((tl : Int) == 0) = false := by simp; omega
      have bl := below_lit wc (.cells #[.int .i64 ((kk : Int) + 1), .int .i64 (q : Int), .int .i64 x3] 71)
      have S7 := hS.below bl
      have B7 := bnext hB.out bl
      have X7 : (wc.alloc (.cells #[.int .i64 ((kk : Int) + 1), .int .i64 (q : Int), .int .i64 x3] 71)).heap[wc.heap.size]? = some (.cells #[.int .i64 ((kk : Int) + 1), .int .i64 (q : Int), .int .i64 x3] 71 (0, 0)) := heap_alloc_new wc _
      replace hS := hid hS
      replace hP := hid hP
      replace hS0 := hid hS0
      replace hx := hid hx
      replace hpk := hid hpk
      replace htl := hid htl
      replace hT0 := hid hT0
      replace hte := hid hte
      replace X7 := hid X7
      replace S7 := hid S7
      replace B7 := hid B7
      go_upto_region 40 with fail
      rw [hje]
      replace hje := hid hje
      have j0 : (0 : Int) ≤ (jj : Int) := by omega
      have j1 : (jj : Int) < (tl : Int) := by omega
      have hjw : IntKind.i64.wrap ((jj : Int) + 1) = (jj : Int) + 1 := by rw [IntKind.wrap_i64]; omega
      go_upto_region 41 with fail
      obtain ⟨W7, hW7⟩ : ∃ W7, W7 = wc.alloc (.cells #[.int .i64 ((kk : Int) + 1), .int .i64 (q : Int), .int .i64 x3] 71) := ⟨_, rfl⟩
      rw [← hW7] at X7 S7 B7 ⊢
      obtain ⟨gx, hgx⟩ : ∃ gx, gx = wc.heap.size := ⟨_, rfl⟩
      rw [← hgx] at X7 ⊢
      replace hgx := hid hgx
      replace hW7 := hid hW7
      clear z0 z1 z2 yt bl
      rcases (show (p : Int) % 5 = 0 ∨ (0 < (p : Int) % 5 ∧ (p : Int) % 5 < 4) ∨ (p : Int) % 5 = 4 by omega) with h5 | ⟨h5, h6⟩ | h5
      · have d5 : decide (0 < (p : Int) % 5) = false := decide_eq_false (by omega)
        have d6 : decide ((p : Int) % 5 < 4) = true := decide_eq_true (by omega)
        clear h5
        have x0 : W7.cell? ⟨gx, 0, none⟩ = some (.int .i64 ((kk : Int) + 1)) := cell_of_row _ gx 0 _ 71 (0, 0) X7.out
        have x1c : W7.cell? ⟨gx, 1, none⟩ = some (.int .i64 (q : Int)) := cell_of_row _ gx 1 _ 71 (0, 0) X7.out
        have x2c : W7.cell? ⟨gx, 2, none⟩ = some (.int .i64 x3) := cell_of_row _ gx 2 _ 71 (0, 0) X7.out
        have gle : g ≤ W7.heap.size := by rw [hg.out]; exact B7.out.size
        have kV := arrives_any (S7.out) (hP.out) hl2 kk q hkk x3 hpk.out gle
        go_wp2_with fail
        refine kV.mono ?_
        clear kV
        rintro e w10 ⟨rfl, ⟨la2, lc2, L2, bv2, B2, R2, ctr2, S10, P10⟩, b10⟩
        dsimp only
        have B10 := hid (show Below w.heap.size w w10 from B7.out.trans (by rw [← hg.out]; exact b10))
        have O10 := hid (show OI g (j + 1) w10 from ⟨_, _, _, _, _, _, _, _, _, _, _, S10, P10⟩)
        clear x0 x1c x2c b10 S10 P10
        go_wp2_with fail
        exact hN.out _ _ _ _ _ _ _ _ _ _ _ _ _ _ _ _ _ _ _ _ _ _ _ _ _ _ _ _ _ _ _ _ _ _ _ _ _ _ _ _ _ _ _ _ _ _ _ _ _ _ _ _ _ _ _ _ _ _ _ _ _ _ _ _ _ _ _ _ _ _ _ _ _ _ _ _ _ _ _ _ _ _ _ _ _ _ _ _ _ _ _ _ _ _ _ _ _ _ _ _ _ _ _ _ _ _ _ _ _ _ _ _ _ _ _ _ _ _ _ _ _ _ _ _ _ _ _ _ _ _ _ _ _ _ _ _ _ _ _ _ _ _ _ _ _ _ _ _ _ _ _ _ _ _ _ _ _ _ _ _ _ _ _ _ _ _ _ _ _ _ _ _ _ _ _ _ _ _ _ _ _ _ _ _ _ B10 O10
      · have d5 : decide (0 < (p : Int) % 5) = true := decide_eq_true (by omega)
        have d6 : decide ((p : Int) % 5 < 4) = true := decide_eq_true (by omega)
        clear h5 h6
        obtain ⟨i0, hi, hz0, hz1, hz2⟩ := info_parts info71
        have S7d := S7.out.below (drew_below W7)
        have gle : g ≤ W7.drew.heap.size := by rw [hg.out]; exact B7.out.size
        have Q7 := S7d.to
        rw [hte.out] at Q7
        obtain ⟨y, hy⟩ : ∃ y : Option Addr, (if tcap = jj + 1 then some (⟨tb, 0, none⟩ : Addr) else some ⟨tb, (jj + 1) * 3, none⟩) = y := ⟨_, rfl⟩
        obtain ⟨tv2, w8, hrun, hq8, hb8, hv8⟩ := QR.cut (ty := 61) Try.underlying61 hi hz0 hz1 hz2 rfl Q7 jj hjT y (tl - (jj + 1)) (tcap - (jj + 1)) (by rw [htl.out]) hy.symm (by rw [htl.out]; omega) gle
        have S8 := S7d.setT hq8 (Kp.of_below hb8) (by rw [hte.out]; exact hv8)
        obtain ⟨a9, c9, hf9, -⟩ := hq8.form
        have yt7 := S7d.blk.t
        have yf7 := S7d.blk.free 17
        have hb9 := S7d.blk.kp (Kp.of_below (S := fun _ => False) hb8) (fun h => h)
        have yt8 := hb9.t
        have yf8 := hb9.free 17
        rw [hte.out, htl.out] at yt7 yt8
        have glt := S7d.blk.lt
        have X8 : w8.heap[gx]? = some (.cells #[.int .i64 ((kk : Int) + 1), .int .i64 (q : Int), .int .i64 x3] 71 (0, 0)) := by rw [hb8.block gx (Array.getElem?_eq_some_iff.1 X7.out).1]; exact X7.out
        have hgx2 : gx ≠ g := ty_ne X8 hb9 (by omega)
        have X9 : (w8.setCell ⟨g, 17, none⟩ tv2).heap[gx]? = some (.cells #[.int .i64 ((kk : Int) + 1), .int .i64 (q : Int), .int .i64 x3] 71 (0, 0)) := by
          rw [(kp_set w8 g 17 tv2).block gx (Array.getElem?_eq_some_iff.1 X8).1 hgx2]; exact X8
        have B8 : Below w.heap.size w (w8.setCell ⟨g, 17, none⟩ tv2) := by
          have h1 := bnext (bnext B7.out (drew_below W7)) hb8
          exact h1.trans ((kp_set w8 g 17 tv2).below (fun k e => by rw [e, hg.out]; exact Nat.le_refl _) h1.size)
        rw [hf9] at hrun S8 X9 B8
        obtain ⟨ol, hol⟩ : ∃ ol, (T.take jj ++ T.drop (jj + 1)).length = ol := ⟨_, rfl⟩
        rw [hol] at hrun S8 X9 B8
        replace hol := hid hol
        replace hf9 := hid hf9
        replace hrun := hid hrun
        replace S8 := hid S8
        replace X8 := hid X8
        replace X9 := hid X9
        replace B8 := hid B8
        replace hq8 := hid hq8
        replace Q7 := hid Q7
        replace S7d := hid S7d
        replace hb9 := hid hb9
        replace hb8 := hid hb8
        have hc1 : jj ≤ tcap := by omega
        have hc2 : jj + 1 ≤ tl := by omega
        have hc3 : jj + 1 ≤ tcap := by omega
        have hc4 : tl ≤ tcap := hcap
        have hc5 : (0 : Int) ≤ (jj : Int) + 1 := by omega
        have hc6 : (jj : Int) + 1 ≤ (tl : Int) := by omega
        go_upto_region 42 with fail
        refine Code.wp_mono nrm_of (once_r42 (tl := tl) yt7 yf7 yt8 yf8 glt htb hc2 hc4 hy hrun ?_)
        refine hid ?_
        intro d219 d220 d221 d222 d223 d224 d225 d226 d227 d228 d229 d230 d231 d232 d233 d234 d235 d236
        clear yt7 yf7 yt8 yf8 hc1 hc2 hc3 hc4 hc5 hc6 hy hrun
        have P8 := hid (hP.out.lessT (cut_mem T jj) (cut_len T jj))
        have gle9 : g ≤ (w8.setCell ⟨g, 17, none⟩ (.slice a9 ol c9)).heap.size := Nat.le_trans (Nat.le_of_eq hg.out) B8.out.size
        obtain ⟨W9, hW9⟩ : ∃ W9, W9 = w8.setCell ⟨g, 17, none⟩ (.slice a9 ol c9) := ⟨_, rfl⟩
        rw [← hW9] at X9 S8 B8 gle9 ⊢
        replace hW9 := hid hW9
        have x0 : W9.cell? ⟨gx, 0, none⟩ = some (.int .i64 ((kk : Int) + 1)) := cell_of_row _ gx 0 _ 71 (0, 0) X9.out
        have x1c : W9.cell? ⟨gx, 1, none⟩ = some (.int .i64 (q : Int)) := cell_of_row _ gx 1 _ 71 (0, 0) X9.out
        have x2c : W9.cell? ⟨gx, 2, none⟩ = some (.int .i64 x3) := cell_of_row _ gx 2 _ 71 (0, 0) X9.out
        have kV := arrives_any (S8.out) (P8.out) hl2 kk q hkk x3 hpk.out gle9
        go_wp2_with fail
        refine kV.mono ?_
        clear kV
        rintro e w10 ⟨rfl, ⟨la2, lc2, L2, bv2, B2, R2, ctr2, S10, P10⟩, b10⟩
        dsimp only
        have B10 := hid (show Below w.heap.size w w10 from B8.out.trans (by rw [← hg.out]; exact b10))
        have O10 := hid (show OI g (j + 1) w10 from ⟨_, _, _, _, _, _, _, _, _, _, _, S10, P10⟩)
        clear x0 x1c x2c b10 S10 P10
        go_wp2_with fail
        exact hN.out _ _ _ _ _ _ _ _ _ _ _ _ _ _ _ _ _ _ _ _ _ _ _ _ _ _ _ _ _ _ _ _ _ _ _ _ _ _ _ _ _ _ _ _ _ _ _ _ _ _ _ _ _ _ _ _ _ _ _ _ _ _ _ _ _ _ _ _ _ _ _ _ _ _ _ _ _ _ _ _ _ _ _ _ _ _ _ _ _ _ _ _ _ _ _ _ _ _ _ _ _ _ _ _ _ _ _ _ _ _ _ _ _ _ _ _ _ _ _ _ _ _ _ _ _ _ _ _ _ _ _ _ _ _ _ _ _ _ _ _ _ _ _ _ _ _ _ _ _ _ _ _ _ _ _ _ _ _ _ _ _ _ _ _ _ _ _ _ _ _ _ _ _ _ _ _ _ _ _ _ _ _ _ _ _ B10 O10
      · have d5 : decide (0 < (p : Int) % 5) = true := decide_eq_true (by omega)
        have d6 : decide ((p : Int) % 5 < 4) = false := decide_eq_false (by omega)
        clear h5
        obtain ⟨i0, hi, hz0, hz1, hz2⟩ := info_parts info71
        have S7d := S7.out.below (drew_below W7)
        have gle : g ≤ W7.drew.heap.size := by rw [hg.out]; exact B7.out.size
        have Q7 := S7d.to
        rw [hte.out] at Q7
        obtain ⟨y, hy⟩ : ∃ y : Option Addr, (if tcap = jj + 1 then some (⟨tb, 0, none⟩ : Addr) else some ⟨tb, (jj + 1) * 3, none⟩) = y := ⟨_, rfl⟩
        obtain ⟨tv2, w8, hrun, hq8, hb8, hv8⟩ := QR.cut (ty := 61) Try.underlying61 hi hz0 hz1 hz2 rfl Q7 jj hjT y (tl - (jj + 1)) (tcap - (jj + 1)) (by rw [htl.out]) hy.symm (by rw [htl.out]; omega) gle
        have S8 := S7d.setT hq8 (Kp.of_below hb8) (by rw [hte.out]; exact hv8)
        obtain ⟨a9, c9, hf9, -⟩ := hq8.form
        have yt7 := S7d.blk.t
        have yf7 := S7d.blk.free 17
        have hb9 := S7d.blk.kp (Kp.of_below (S := fun _ => False) hb8) (fun h => h)
        have yt8 := hb9.t
        have yf8 := hb9.free 17
        rw [hte.out, htl.out] at yt7 yt8
        have glt := S7d.blk.lt
        have X8 : w8.heap[gx]? = some (.cells #[.int .i64 ((kk : Int) + 1), .int .i64 (q : Int), .int .i64 x3] 71 (0, 0)) := by rw [hb8.block gx (Array.getElem?_eq_some_iff.1 X7.out).1]; exact X7.out
        have hgx2 : gx ≠ g := ty_ne X8 hb9 (by omega)
        have X9 : (w8.setCell ⟨g, 17, none⟩ tv2).heap[gx]? = some (.cells #[.int .i64 ((kk : Int) + 1), .int .i64 (q : Int), .int .i64 x3] 71 (0, 0)) := by
          rw [(kp_set w8 g 17 tv2).block gx (Array.getElem?_eq_some_iff.1 X8).1 hgx2]; exact X8
        have B8 : Below w.heap.size w (w8.setCell ⟨g, 17, none⟩ tv2) := by
          have h1 := bnext (bnext B7.out (drew_below W7)) hb8
          exact h1.trans ((kp_set w8 g 17 tv2).below (fun k e => by rw [e, hg.out]; exact Nat.le_refl _) h1.size)
        rw [hf9] at hrun S8 X9 B8
        obtain ⟨ol, hol⟩ : ∃ ol, (T.take jj ++ T.drop (jj + 1)).length = ol := ⟨_, rfl⟩
        rw [hol] at hrun S8 X9 B8
        replace hol := hid hol
        replace hf9 := hid hf9
        replace hrun := hid hrun
        replace S8 := hid S8
        replace X8 := hid X8
        replace X9 := hid X9
        replace B8 := hid B8
        replace hq8 := hid hq8
        replace Q7 := hid Q7
        replace S7d := hid S7d
        replace hb9 := hid hb9
        replace hb8 := hid hb8
        have hc1 : jj ≤ tcap := by omega
        have hc2 : jj + 1 ≤ tl := by omega
        have hc3 : jj + 1 ≤ tcap := by omega
        have hc4 : tl ≤ tcap := hcap
        have hc5 : (0 : Int) ≤ (jj : Int) + 1 := by omega
        have hc6 : (jj : Int) + 1 ≤ (tl : Int) := by omega
        go_upto_region 42 with fail
        refine Code.wp_mono nrm_of (once_r42 (tl := tl) yt7 yf7 yt8 yf8 glt htb hc2 hc4 hy hrun ?_)
        refine hid ?_
        intro d219 d220 d221 d222 d223 d224 d225 d226 d227 d228 d229 d230 d231 d232 d233 d234 d235 d236
        clear yt7 yf7 yt8 yf8 hc1 hc2 hc3 hc4 hc5 hc6 hy hrun
        have P8 := hid (hP.out.lessT (cut_mem T jj) (cut_len T jj))
        have OO := hid (show OI g (j + 1) (w8.setCell ⟨g, 17, none⟩ (.slice a9 ol c9)) from ⟨_, _, _, _, _, _, _, _, _, _, _, S8.out, P8.out.mono (by omega)⟩)
        go_wp2_with fail
        exact hN.out _ _ _ _ _ _ _ _ _ _ _ _ _ _ _ _ _ _ _ _ _ _ _ _ _ _ _ _ _ _ _ _ _ _ _ _ _ _ _ _ _ _ _ _ _ _ _ _ _ _ _ _ _ _ _ _ _ _ _ _ _ _ _ _ _ _ _ _ _ _ _ _ _ _ _ _ _ _ _ _ _ _ _ _ _ _ _ _ _ _ _ _ _ _ _ _ _ _ _ _ _ _ _ _ _ _ _ _ _ _ _ _ _ _ _ _ _ _ _ _ _ _ _ _ _ _ _ _ _ _ _ _ _ _ _ _ _ _ _ _ _ _ _ _ _ _ _ _ _ _ _ _ _ _ _ _ _ _ _ _ _ _ _ _ _ _ _ _ _ _ _ _ _ _ _ _ _ _ _ _ _ _ _ _ _ B8 OO

end Go.Proofs.Ythjggjjocfbjcaa
