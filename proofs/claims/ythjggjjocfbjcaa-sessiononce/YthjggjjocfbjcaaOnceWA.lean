/- SessionOnce: one step of its world. -/
import Derived.Test.YthjggjjocfbjcaaOnceC
import Derived.Deep.CutBlock
import Derived.Deep.DeepCutAuto
import Derived.Deep.DrawnRows
import Derived.BigQuiet
import Derived.Deep.RegionHeld3
import Derived.Tactics
namespace Go.Proofs.Ythjggjjocfbjcaa
open Go.RowKit
set_option linter.unusedVariables false

attribute [local go_sem ↓] Go.wp_at_zero Go.wp_at_succ

set_option maxRecDepth 1000000 in
set_option maxHeartbeats 8000000 in
theorem once_wA {F X : Act → World → Prop} {w w6 : World} {g j p k : Nat} {r : Int} {c0 c1 c2 c4 c5 c6 c10 c11 c12 c13 c14 c15 c16 c17 c18 c19 c20 c21 c22 c23 c24 c25 c26 c27 c28 c29 c30 c31 c32 c33 c34 c35 c36 c37 c38 c39 c40 c41 c42 c43 c44 c45 c46 c47 c48 c49 c50 c51 c52 c53 c54 c55 c56 c57 c58 c59 c60 c61 c62 c63 c64 c65 c66 c67 c68 c70 c71 c72 c73 c74 c75 c76 c77 c78 c79 c80 c81 c82 c83 c84 c85 c86 c87 c88 c89 c90 c91 c92 c93 c94 c95 c96 c97 c98 c99 c100 c101 c102 c103 c104 c105 c106 c107 c108 c109 c110 c111 c112 c113 c114 c115 c116 c117 c118 c119 c120 c121 c122 c123 c124 c125 c126 c127 c128 c129 c130 c131 c132 c133 c134 c135 c136 c137 c138 c139 c140 c141 c142 c143 c144 c145 c146 c147 c148 c149 c150 c151 c152 c153 c154 c155 c156 c157 c158 c159 c160 c161 c162 c163 c164 c165 c166 c167 c168 c169 c170 c171 c172 c173 c174 c175 c176 c177 c178 c179 c180 c181 c182 c183 c184 c185 c186 c187 c188 c189 c190 c191 c192 c193 c194 c195 c196 c197 c198 c199 c200 c201 c202 c203 c204 c205 c206 c207 c208 c209 c210 c211 c212 c213 c214 c215 c216 c217 c218 c219 c220 c221 c222 c223 c224 c225 c226 c227 c228 c229 c230 c231 c232 c233 c234 c235 c236 c237 c238 c239 c240 c241 c242 c243 c244 c245 c246 c247 c248 c249 c250 c251 c252 c253 c254 c255 c256 c257 c258 c259 c260 c261 c262 : Value} (hg : Hid (g = w.heap.size)) (hl2 : j < 200) (hk : k < 4) (hp : p < 1000003) (hB : Hid (Below w.heap.size w w6)) (hO : Hid (OI g j w6)) (hrs : r = 0 ∨ r = 1)
    (hN : Hid (∀ (d10 d11 d12 d13 d14 d15 d16 d17 d70 d71 d72 d73 d74 d75 d76 d77 d78 d79 d80 d81 d82 d83 d84 d85 d86 d87 d88 d89 d90 d91 d92 d93 d94 d95 d96 d97 d98 d99 d100 d101 d102 d103 d104 d105 d106 d107 d108 d109 d110 d111 d112 d113 d114 d115 d116 d117 d118 d119 d120 d121 d122 d123 d124 d125 d126 d127 d128 d129 d130 d131 d132 d133 d134 d135 d136 d137 d138 d139 d140 d141 d142 d143 d144 d145 d146 d147 d148 d149 d150 d151 d152 d153 d154 d155 d156 d157 d158 d159 d160 d161 d162 d163 d164 d165 d166 d167 d168 d169 d170 d171 d172 d173 d174 d175 d176 d177 d178 d179 d180 d181 d182 d183 d184 d185 d186 d187 d188 d189 d190 d191 d192 d193 d194 d195 d196 d197 d198 d199 d200 d201 d202 d203 d204 d205 d206 d207 d208 d209 d210 d211 d212 d213 d214 d215 d216 d217 d218 d219 d220 d221 d222 d223 d224 d225 d226 d227 d228 d229 d230 d231 d232 d233 d234 d235 d236 d237 d238 d239 d240 d241 d242 d243 d244 d245 : Value) (wx : World), Hid (Below w.heap.size w wx) → Hid (OI g (j + 1) wx) → F ⟨#[c0, c1, c2, .pointer (some ⟨g, 0, none⟩), c4, c5, c6, .int .i64 (j : Int), .int .i64 (p : Int), .int .i64 (k : Int), d10, d11, d12, d13, d14, d15, d16, d17, c18, c19, c20, c21, c22, c23, c24, c25, c26, c27, c28, c29, c30, c31, c32, c33, c34, c35, c36, c37, c38, c39, c40, c41, c42, c43, c44, c45, c46, c47, c48, c49, c50, c51, c52, c53, c54, c55, c56, c57, c58, c59, c60, c61, c62, c63, c64, c65, c66, c67, c68, .int .i64 r, d70, d71, d72, d73, d74, d75, d76, d77, d78, d79, d80, d81, d82, d83, d84, d85, d86, d87, d88, d89, d90, d91, d92, d93, d94, d95, d96, d97, d98, d99, d100, d101, d102, d103, d104, d105, d106, d107, d108, d109, d110, d111, d112, d113, d114, d115, d116, d117, d118, d119, d120, d121, d122, d123, d124, d125, d126, d127, d128, d129, d130, d131, d132, d133, d134, d135, d136, d137, d138, d139, d140, d141, d142, d143, d144, d145, d146, d147, d148, d149, d150, d151, d152, d153, d154, d155, d156, d157, d158, d159, d160, d161, d162, d163, d164, d165, d166, d167, d168, d169, d170, d171, d172, d173, d174, d175, d176, d177, d178, d179, d180, d181, d182, d183, d184, d185, d186, d187, d188, d189, d190, d191, d192, d193, d194, d195, d196, d197, d198, d199, d200, d201, d202, d203, d204, d205, d206, d207, d208, d209, d210, d211, d212, d213, d214, d215, d216, d217, d218, d219, d220, d221, d222, d223, d224, d225, d226, d227, d228, d229, d230, d231, d232, d233, d234, d235, d236, d237, d238, d239, d240, d241, d242, d243, d244, d245, c246, c247, c248, c249, c250, c251, c252, c253, c254, c255, c256, c257, c258, c259, c260, c261, c262], []⟩ wx))
    (hC : Hid (∀ (d10 d11 d12 d13 d14 d15 d16 d17 d70 d71 d72 d73 d74 d75 d76 d77 d78 d79 d80 d81 d82 d83 d84 d85 d86 d87 d88 d89 d90 d91 d92 d93 d94 d95 d96 d97 d98 d99 d100 d101 d102 d103 d104 d105 d106 d107 d108 d109 d110 d111 d112 d113 d114 d115 d116 d117 d118 d119 d120 d121 d122 d123 d124 d125 d126 d127 d128 d129 d130 d131 d132 d133 d134 d135 d136 d137 d138 d139 d140 d141 d142 d143 d144 d145 d146 d147 d148 d149 d150 d151 d152 d153 d154 d155 d156 d157 d158 d159 d160 d161 d162 d163 d164 d165 d166 d167 d168 d169 d170 d171 d172 d173 d174 d175 d176 d177 d178 d179 d180 d181 d182 d183 d184 d185 d186 d187 d188 d189 d190 d191 d192 d193 d194 d195 d196 d197 d198 d199 d200 d201 d202 d203 d204 d205 d206 d207 d208 d209 d210 d211 d212 d213 d214 d215 d216 d217 d218 d219 d220 d221 d222 d223 d224 d225 d226 d227 d228 d229 d230 d231 d232 d233 d234 d235 d236 d237 d238 d239 d240 d241 d242 d243 d244 d245 : Value) (wx : World), Hid (Below w.heap.size w wx) → Hid (OI g (j + 1) wx) → X ⟨#[c0, c1, c2, .pointer (some ⟨g, 0, none⟩), c4, c5, c6, .int .i64 (j : Int), .int .i64 (p : Int), .int .i64 (k : Int), d10, d11, d12, d13, d14, d15, d16, d17, c18, c19, c20, c21, c22, c23, c24, c25, c26, c27, c28, c29, c30, c31, c32, c33, c34, c35, c36, c37, c38, c39, c40, c41, c42, c43, c44, c45, c46, c47, c48, c49, c50, c51, c52, c53, c54, c55, c56, c57, c58, c59, c60, c61, c62, c63, c64, c65, c66, c67, c68, .int .i64 r, d70, d71, d72, d73, d74, d75, d76, d77, d78, d79, d80, d81, d82, d83, d84, d85, d86, d87, d88, d89, d90, d91, d92, d93, d94, d95, d96, d97, d98, d99, d100, d101, d102, d103, d104, d105, d106, d107, d108, d109, d110, d111, d112, d113, d114, d115, d116, d117, d118, d119, d120, d121, d122, d123, d124, d125, d126, d127, d128, d129, d130, d131, d132, d133, d134, d135, d136, d137, d138, d139, d140, d141, d142, d143, d144, d145, d146, d147, d148, d149, d150, d151, d152, d153, d154, d155, d156, d157, d158, d159, d160, d161, d162, d163, d164, d165, d166, d167, d168, d169, d170, d171, d172, d173, d174, d175, d176, d177, d178, d179, d180, d181, d182, d183, d184, d185, d186, d187, d188, d189, d190, d191, d192, d193, d194, d195, d196, d197, d198, d199, d200, d201, d202, d203, d204, d205, d206, d207, d208, d209, d210, d211, d212, d213, d214, d215, d216, d217, d218, d219, d220, d221, d222, d223, d224, d225, d226, d227, d228, d229, d230, d231, d232, d233, d234, d235, d236, d237, d238, d239, d240, d241, d242, d243, d244, d245, c246, c247, c248, c249, c250, c251, c252, c253, c254, c255, c256, c257, c258, c259, c260, c261, c262], []⟩ wx)) :
    Code.wp Try.prog ((Try.f6.body.bind (blkAt 4)).getD .skip) (Two F X) ⟨#[c0, c1, c2, .pointer (some ⟨g, 0, none⟩), c4, c5, c6, .int .i64 (j : Int), .int .i64 (p : Int), .int .i64 (k : Int), c10, c11, c12, c13, c14, c15, c16, c17, c18, c19, c20, c21, c22, c23, c24, c25, c26, c27, c28, c29, c30, c31, c32, c33, c34, c35, c36, c37, c38, c39, c40, c41, c42, c43, c44, c45, c46, c47, c48, c49, c50, c51, c52, c53, c54, c55, c56, c57, c58, c59, c60, c61, c62, c63, c64, c65, c66, c67, c68, .int .i64 r, c70, c71, c72, c73, c74, c75, c76, c77, c78, c79, c80, c81, c82, c83, c84, c85, c86, c87, c88, c89, c90, c91, c92, c93, c94, c95, c96, c97, c98, c99, c100, c101, c102, c103, c104, c105, c106, c107, c108, c109, c110, c111, c112, c113, c114, c115, c116, c117, c118, c119, c120, c121, c122, c123, c124, c125, c126, c127, c128, c129, c130, c131, c132, c133, c134, c135, c136, c137, c138, c139, c140, c141, c142, c143, c144, c145, c146, c147, c148, c149, c150, c151, c152, c153, c154, c155, c156, c157, c158, c159, c160, c161, c162, c163, c164, c165, c166, c167, c168, c169, c170, c171, c172, c173, c174, c175, c176, c177, c178, c179, c180, c181, c182, c183, c184, c185, c186, c187, c188, c189, c190, c191, c192, c193, c194, c195, c196, c197, c198, c199, c200, c201, c202, c203, c204, c205, c206, c207, c208, c209, c210, c211, c212, c213, c214, c215, c216, c217, c218, c219, c220, c221, c222, c223, c224, c225, c226, c227, c228, c229, c230, c231, c232, c233, c234, c235, c236, c237, c238, c239, c240, c241, c242, c243, c244, c245, c246, c247, c248, c249, c250, c251, c252, c253, c254, c255, c256, c257, c258, c259, c260, c261, c262], []⟩ w6 := by
  conv => arg 2; whnf
  obtain ⟨la, lc, L, A, tv, T, bv, B, rb, R, ctr, hS, hP⟩ := hO.out
  have k0 : (0 : Int) ≤ (k : Int) := by omega
  have k4 : (k : Int) < 4 := by omega
  have r0c := hid hrs
  clear hrs
  go_upto_if 121 with fail
  go_cut [121] from 122 to 123 (fun v wx => v = .bool true ∧ wx = w6)
  case first =>
    rcases r0c.out with e | e
    · have r0 : (r == 0) = true := by rw [e]; rfl
      replace e := hid e
      go_wp2_with fail
      go_meet
      exact ⟨by first | rfl | rw [r0], rfl⟩
    · have r0 : (r == 0) = false := by rw [e]; rfl
      have r1 : (r == 1) = true := by rw [e]; rfl
      replace e := hid e
      go_wp2_with fail
      go_meet
      exact ⟨by first | rfl | rw [r1], rfl⟩
  case rest =>
    obtain ⟨rfl, rfl⟩ := hcut
    have hpa := hP.ask hl2 k hk [UInt8.ofNat j] (by simp)
    have y0 := hS.blk.a0 k hk
    have y1 := hS.blk.a1 k hk
    have y2 := hS.blk.a2 k hk
    have y3 : wc.cell? ⟨g, 1 + k * 4 + 3, none⟩ = some (.slice (A k).a (A k).ks.length (A k).c) := hS.blk.a3 k hk
    have hju : IntKind.u8.wrap (j : Int) = (j : Int) := by rw [IntKind.wrap_u8]; omega
    have bl := below_lit wc (.cells #[.int .u8 (j : Int)] 5)
    have hat : At (wc.alloc (.cells #[.int .u8 (j : Int)] 5)) (some ⟨wc.heap.size, 0, none⟩) [UInt8.ofNat j] := at_lit _ _ _ (by simp [Go.Proofs.Ythjggjjocfbjcaa.B]; omega)
    have hA := (hP.ci k hk).ask
    have hnb : 0 ≤ (A k).next ∧ (A k).next ≤ 9223372036854775807 := by have h1 := hA.next; have e : (A k).flat.2.1 = (A k).next := rfl; rw [e] at h1; unfold MM at h1; omega
    have KA := (hS.wt k hk).below bl
    have hkl := ks_short hA
    have hS7 := hS.below bl
    have hB7 := bnext hB.out bl
    replace hS := hid hS
    replace hP := hid hP
    replace hA := hid hA
    replace hS7 := hid hS7
    rcases hpa with ⟨x, rq, hx⟩ | ⟨a2, hx, hnx⟩
    · obtain ⟨id2, nx2, ak2, L2⟩ := x
      have kK := ask_of (n2 := L2.length) hx rfl (A k).a (A k).ks.length (A k).c 0 (A k).ks (some ⟨wc.heap.size, 0, none⟩) 1 1 _ rfl rfl KA hkl hnb rfl (by omega) hat
      clear hx
      go_wp2_with fail
      refine kK.mono ?_
      clear kK y0 y1 y2 y3
      rintro e w7 ⟨a7, c7, ks7, rfl, f7, l7, h7, b7⟩
      dsimp only
      have b8 := below_lit w7 (.cells #[.int .i64 id2, .int .i64 nx2, .int .i64 ak2, .slice a7 L2.length c7] 41)
      have BB := hid (bnext (bnext hB7 b7) b8)
      have OO := hid (show OI g (j + 1) (w7.alloc (.cells #[.int .i64 id2, .int .i64 nx2, .int .i64 ak2, .slice a7 L2.length c7] 41)) from ⟨_, _, _, _, _, _, _, _, _, _, _, (hS7.out.below b7).below b8, hP.out.mono (by omega)⟩)
      replace f7 := hid f7
      replace l7 := hid l7
      go_wp2_with fail
      exact hN.out _ _ _ _ _ _ _ _ _ _ _ _ _ _ _ _ _ _ _ _ _ _ _ _ _ _ _ _ _ _ _ _ _ _ _ _ _ _ _ _ _ _ _ _ _ _ _ _ _ _ _ _ _ _ _ _ _ _ _ _ _ _ _ _ _ _ _ _ _ _ _ _ _ _ _ _ _ _ _ _ _ _ _ _ _ _ _ _ _ _ _ _ _ _ _ _ _ _ _ _ _ _ _ _ _ _ _ _ _ _ _ _ _ _ _ _ _ _ _ _ _ _ _ _ _ _ _ _ _ _ _ _ _ _ _ _ _ _ _ _ _ _ _ _ _ _ _ _ _ _ _ _ _ _ _ _ _ _ _ _ _ _ _ _ _ _ _ _ _ _ _ _ _ _ _ _ _ _ _ _ _ _ _ _ _ BB OO
    · obtain ⟨id2, nx2, ak2, L2⟩ := a2
      have kK := ask_of (n2 := L2.length) hx rfl (A k).a (A k).ks.length (A k).c 0 (A k).ks (some ⟨wc.heap.size, 0, none⟩) 1 1 _ rfl rfl KA hkl hnb rfl (by omega) hat
      clear hx
      go_wp2_with fail
      refine kK.mono ?_
      clear kK y0 y1 y2 y3
      rintro e w7 ⟨a7, c7, ks7, rfl, f7, l7, h7, b7⟩
      dsimp only
      rw [← l7]
      replace l7 := hid l7
      obtain ⟨hOP, hpk, hxid⟩ := hnx ⟨id2, nx2, ak2, a7, c7, ks7⟩ (by unfold AV.flat; rw [f7])
      clear hnx
      have b8 := below_lit w7 (.cells #[.int .i64 id2, .int .i64 nx2, .int .i64 ak2, .slice a7 ks7.length c7] 41)
      have P8 := ABlk.new w7 (.int .i64 id2) (.int .i64 nx2) (.int .i64 ak2) (.slice a7 ks7.length c7)
      have B8 := bnext (bnext hB7 b7) b8
      have S8 := (hS7.out.below b7).below b8
      have K8 := h7.below b8
      replace f7 := hid f7
      have hz6 : wc.heap.size < (wc.alloc (.cells #[.int .u8 (j : Int)] 5)).heap.size := by simp
      have hsl := hS.out.slt
      have hlo : ∀ i, Sx g tv bv rb i → i < (wc.alloc (.cells #[.int .u8 (j : Int)] 5)).heap.size := fun i hi => by have := (hsl i hi).2; omega
      go_upto_region 27 with fail
      obtain ⟨W8, hW8⟩ : ∃ W8, W8 = w7.alloc (.cells #[.int .i64 id2, .int .i64 nx2, .int .i64 ak2, .slice a7 ks7.length c7] 41) := ⟨_, rfl⟩
      rw [← hW8] at S8 P8 B8 K8 ⊢
      obtain ⟨g8, hg8⟩ : ∃ g8, g8 = w7.heap.size := ⟨_, rfl⟩
      rw [← hg8] at P8 ⊢
      replace hg8 := hid hg8
      replace hW8 := hid hW8
      have p0 := P8.cell0
      have p1 := P8.cell1
      have p2 := P8.cell2
      have p3 := P8.cell3
      have q0 := S8.blk.a0 k hk
      have q1 := S8.blk.a1 k hk
      have q2 := S8.blk.a2 k hk
      have q3 : W8.cell? ⟨g, 1 + k * 4 + 3, none⟩ = some (.slice (A k).a (A k).ks.length (A k).c) := S8.blk.a3 k hk
      have q4 := S8.blk.free
      have S9 := (S8.setA k hk ⟨id2, nx2, ak2, a7, c7, ks7⟩ K8 hlo).below (drew_below _)
      have hk4 : Kp (fun i => i = g) W8 ((((W8.setCell ⟨g, 1 + k * 4, none⟩ (.int .i64 id2)).setCell ⟨g, 1 + k * 4 + 1, none⟩ (.int .i64 nx2)).setCell ⟨g, 1 + k * 4 + 2, none⟩ (.int .i64 ak2)).setCell ⟨g, 1 + k * 4 + 3, none⟩ (.slice a7 ks7.length c7)).drew :=
        (((((Kp.refl (fun i => i = g) W8).setCell (p := ⟨g, 1 + k * 4, none⟩) rfl _).setCell (p := ⟨g, 1 + k * 4 + 1, none⟩) rfl _).setCell (p := ⟨g, 1 + k * 4 + 2, none⟩) rfl _).setCell (p := ⟨g, 1 + k * 4 + 3, none⟩) rfl _).then (drew_below _)
      replace S9 := hid S9
      replace hk4 := hid hk4
      replace P8 := hid P8
      replace S8 := hid S8
      go_region
      obtain ⟨W9, hW9⟩ : ∃ W9, W9 = ((((W8.setCell ⟨g, 1 + k * 4, none⟩ (.int .i64 id2)).setCell ⟨g, 1 + k * 4 + 1, none⟩ (.int .i64 nx2)).setCell ⟨g, 1 + k * 4 + 2, none⟩ (.int .i64 ak2)).setCell ⟨g, 1 + k * 4 + 3, none⟩ (.slice a7 ks7.length c7)).drew := ⟨_, rfl⟩
      rw [← hW9] at hk4 ⊢
      have S9' := hid (show OS g g W9 la lc L (upd A k ⟨id2, nx2, ak2, a7, c7, ks7⟩) tv T bv B rb R ctr by rw [hW9]; exact S9.out)
      have B9 : Below w.heap.size w W9 := B8.trans (hk4.out.below (fun i e => by rw [e, hg.out]; exact Nat.le_refl _) B8.size)
      clear p0 p1 p2 p3 q0 q1 q2 q3 q4 S9
      replace hW9 := hid hW9
      have gle : g ≤ W9.heap.size := by rw [hg.out]; exact B9.size
      have kS := send_any S9'.out k hk (A k).next (by have := hP.out.tl; omega) gle
      go_wp2_with fail
      refine kS.mono ?_
      clear kS
      rintro e w10 ⟨v10, rfl, ⟨tv2, S10⟩, b10⟩
      dsimp only
      have B10 := hid (show Below w.heap.size w w10 from B9.trans (by rw [← hg.out]; exact b10))
      have O10 := hid (show OI g (j + 1) w10 from ⟨_, _, _, _, _, _, _, _, _, _, _, S10, hOP.sent k hk (A k).next (by rw [upd_same]; exact hpk) (by have := hP.out.tl; omega)⟩)
      replace S10 := hid S10
      replace hOP := hid hOP
      replace hpk := hid hpk
      replace hxid := hid hxid
      go_wp2_with fail
      exact hN.out _ _ _ _ _ _ _ _ _ _ _ _ _ _ _ _ _ _ _ _ _ _ _ _ _ _ _ _ _ _ _ _ _ _ _ _ _ _ _ _ _ _ _ _ _ _ _ _ _ _ _ _ _ _ _ _ _ _ _ _ _ _ _ _ _ _ _ _ _ _ _ _ _ _ _ _ _ _ _ _ _ _ _ _ _ _ _ _ _ _ _ _ _ _ _ _ _ _ _ _ _ _ _ _ _ _ _ _ _ _ _ _ _ _ _ _ _ _ _ _ _ _ _ _ _ _ _ _ _ _ _ _ _ _ _ _ _ _ _ _ _ _ _ _ _ _ _ _ _ _ _ _ _ _ _ _ _ _ _ _ _ _ _ _ _ _ _ _ _ _ _ _ _ _ _ _ _ _ _ _ _ _ _ _ _ B10 O10

end Go.Proofs.Ythjggjjocfbjcaa
