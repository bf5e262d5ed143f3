/- NetPlays: Send. -/
import Derived.Test.YtgjjgfppolmkoaaPlaysC4
namespace Go.Proofs.Ytgjjgfppolmkoaa
open Go.RowKit Go.Maps
set_option linter.unusedVariables false

theorem At.kp2 {S : Nat → Prop} {w w' : World} {a : Option Addr} {l : List UInt8} (h : At w a l) (hk : Kp S w w') (hn : l ≠ [] → ∀ x, a = some x → ¬ S x.block) : At w' a l :=
  fun hl => h.kp hk (hn hl) hl

theorem two_gl1 (w : World) (gl on : Nat) (x y : Value) : Kp (fun k => k = gl) w ((w.setCell ⟨gl, on * 2, none⟩ x).setCell ⟨gl, on * 2 + 1, none⟩ y) :=
  ((Kp.refl (fun k => k = gl) w).setCell (p := ⟨gl, on * 2, none⟩) rfl x).setCell (p := ⟨gl, on * 2 + 1, none⟩) rfl y

def pv17 (gd on p g9 gi len cg : Nat) (fr to num ec : Int) : List Value := [.int .i64 (on : Int), .pointer (some ⟨gd, on, none⟩), .pointer (some ⟨p, 0, none⟩), .pointer (some ⟨g9, 2, none⟩), .int .i64 fr, .pointer (some ⟨g9, 3, none⟩), .int .i64 to, .slice (some ⟨gi, 0, none⟩) len cg, .tuple #[.int .i64 num, .int .i64 ec], .tuple #[.int .i64 num, .int .i64 ec], .int .i64 num, .int .i64 ec]

def pv18 (gl on n c last g9 len bc : Nat) (a ba : Option Addr) (fr to : Int) : List Value := [.int .i64 (on : Int), .pointer (some ⟨gl, on * 2, none⟩), .agg #[.slice a n c, .int .i64 (last : Int)], .pointer (some ⟨g9, 2, none⟩), .int .i64 fr, .pointer (some ⟨g9, 3, none⟩), .int .i64 to, .pointer (some ⟨g9, 4, none⟩), .slice ba len bc, undef, undef, undef, undef, undef, undef]

set_option maxRecDepth 1000000 in
set_option maxHeartbeats 8000000 in
theorem plays_w1 {F : Act → World → Prop} {w : World} {base gd gl g9 on b : Nat} {kind onv fr to k : Int} {ba : Option Addr} {len bc : Nat} {body : List UInt8} {c0 c1 c2 c3 c4 c7 c8 c12 c13 c14 c15 c16 c17 c18 c19 c20 c21 c22 c23 c24 c25 c26 c27 c28 c29 c30 c31 c32 c33 c34 c35 c36 c37 c38 c39 c40 c41 c42 c43 c44 c45 c46 c47 c48 c49 c50 c51 c52 c53 c54 c55 c56 c57 c58 c59 c60 c61 c62 c63 c64 c65 c66 c67 c68 c69 c70 c71 c72 c73 c74 c76 c77 c78 c79 c80 c81 c82 c83 c84 c85 c86 c87 c88 c89 c90 c91 c92 c93 c94 c95 c96 c97 c98 c99 c100 c101 c102 c103 c104 c105 c106 c107 c108 c109 c110 c111 c112 c113 c114 c115 c116 c117 c118 c119 c120 c121 c122 c123 c124 c125 c126 c127 c128 c129 c130 c131 c132 c133 c134 c135 c136 c137 c138 c139 c140 c141 c142 c143 c144 c145 c146 c147 c148 c149 c150 c151 c152 c153 c154 c155 c156 c157 c158 c159 c160 c161 c162 c163 c164 c165 c166 c167 c168 c169 c170 c171 c172 c173 c174 c175 c176 c177 c178 c179 c180 c181 c182 c183 c184 c185 c186 c187 c188 c189 c190 c191 c192 c193 c194 c195 c196 c197 c198 c199 c200 c201 c202 c203 c204 c205 c206 c207 c208 c209 c210 c211 c212 c213 c214 c215 c216 c217 c218 c219 c220 c221 c222 c223 c224 c225 c226 c227 c228 c229 c230 c231 c232 c233 c234 c235 c236 c237 c238 c239 c240 c241 c242 c243 c244 c245 c246 c247 c248 c249 c250 c251 c252 c253 c254 c255 c256 c257 c258 c259 c260 c261 c262 c263 : Value}
    (hP : Hid (PO base gd gl g9 on w b)) (hb : b ≤ 1000) (h9 : Hid (O9 w g9 kind onv fr to ba len bc k)) (hl : Hid (body.length = len)) (hlen : len ≤ 140737488355328) (hat : Hid (At w ba body)) (hba : Hid (body ≠ [] → ∀ x, ba = some x → x.block < base)) (hnum : Hid ((Lit.int .i64 k).wf = true)) (hkind : kind = 1)
    (hN : Hid (∀ (d12 d13 d14 d15 d16 d17 d18 d19 d20 d21 d22 d23 d24 d25 d26 d27 d28 d29 d30 d31 d76 d77 d78 d79 d80 d81 d82 d83 d84 d85 d86 d87 d88 d89 d90 d91 d92 d93 d94 d95 d96 d97 d98 d99 d100 d101 d102 d103 d104 d105 d106 d107 d108 d109 d110 d111 d112 d113 d114 d115 d116 d117 d118 d119 d120 d121 d122 d123 d124 d125 d126 d127 d128 d129 d130 d131 d132 d133 d134 d135 d136 d137 d138 d139 d140 d141 d142 d143 d144 d145 d146 d147 d148 d149 d150 d151 d152 d153 d154 d155 d156 d157 d158 d159 d160 d161 d162 d163 d164 d165 d166 d167 d168 d169 d170 d171 d172 d173 d174 d175 d176 d177 d178 d179 d180 d181 d182 d183 d184 d185 d186 d187 d188 d189 d190 d191 d192 d193 d194 d195 d196 d197 d198 d199 d200 d201 d202 d203 d204 d205 d206 d207 d208 d209 d210 d211 d212 d213 d214 d215 d216 d217 d218 d219 d220 d221 d222 d223 d224 d225 d226 d227 d228 d229 d230 : Value) (wE : World), PN base gd gl on wE (b + 1) → Below base w wE → F ⟨#[c0, c1, c2, c3, c4, .pointer (some ⟨gd, 0, none⟩), .pointer (some ⟨gl, 0, none⟩), c7, c8, .pointer (some ⟨g9, 0, none⟩), .int .i64 (on : Int), .bool true, d12, d13, d14, d15, d16, d17, d18, d19, d20, d21, d22, d23, d24, d25, d26, d27, d28, d29, d30, d31, c32, c33, c34, c35, c36, c37, c38, c39, c40, c41, c42, c43, c44, c45, c46, c47, c48, c49, c50, c51, c52, c53, c54, c55, c56, c57, c58, c59, c60, c61, c62, c63, c64, c65, c66, c67, c68, c69, c70, c71, c72, c73, c74, .int .i64 kind, d76, d77, d78, d79, d80, d81, d82, d83, d84, d85, d86, d87, d88, d89, d90, d91, d92, d93, d94, d95, d96, d97, d98, d99, d100, d101, d102, d103, d104, d105, d106, d107, d108, d109, d110, d111, d112, d113, d114, d115, d116, d117, d118, d119, d120, d121, d122, d123, d124, d125, d126, d127, d128, d129, d130, d131, d132, d133, d134, d135, d136, d137, d138, d139, d140, d141, d142, d143, d144, d145, d146, d147, d148, d149, d150, d151, d152, d153, d154, d155, d156, d157, d158, d159, d160, d161, d162, d163, d164, d165, d166, d167, d168, d169, d170, d171, d172, d173, d174, d175, d176, d177, d178, d179, d180, d181, d182, d183, d184, d185, d186, d187, d188, d189, d190, d191, d192, d193, d194, d195, d196, d197, d198, d199, d200, d201, d202, d203, d204, d205, d206, d207, d208, d209, d210, d211, d212, d213, d214, d215, d216, d217, d218, d219, d220, d221, d222, d223, d224, d225, d226, d227, d228, d229, d230, c231, c232, c233, c234, c235, c236, c237, c238, c239, c240, c241, c242, c243, c244, c245, c246, c247, c248, c249, c250, c251, c252, c253, c254, c255, c256, c257, c258, c259, c260, c261, c262, c263], []⟩ wE)) :
    Code.wp Try.prog ((Try.f4.body.bind (blkAt 4)).getD .skip) (Nrm F) ⟨#[c0, c1, c2, c3, c4, .pointer (some ⟨gd, 0, none⟩), .pointer (some ⟨gl, 0, none⟩), c7, c8, .pointer (some ⟨g9, 0, none⟩), .int .i64 (on : Int), .bool true, c12, c13, c14, c15, c16, c17, c18, c19, c20, c21, c22, c23, c24, c25, c26, c27, c28, c29, c30, c31, c32, c33, c34, c35, c36, c37, c38, c39, c40, c41, c42, c43, c44, c45, c46, c47, c48, c49, c50, c51, c52, c53, c54, c55, c56, c57, c58, c59, c60, c61, c62, c63, c64, c65, c66, c67, c68, c69, c70, c71, c72, c73, c74, .int .i64 kind, c76, c77, c78, c79, c80, c81, c82, c83, c84, c85, c86, c87, c88, c89, c90, c91, c92, c93, c94, c95, c96, c97, c98, c99, c100, c101, c102, c103, c104, c105, c106, c107, c108, c109, c110, c111, c112, c113, c114, c115, c116, c117, c118, c119, c120, c121, c122, c123, c124, c125, c126, c127, c128, c129, c130, c131, c132, c133, c134, c135, c136, c137, c138, c139, c140, c141, c142, c143, c144, c145, c146, c147, c148, c149, c150, c151, c152, c153, c154, c155, c156, c157, c158, c159, c160, c161, c162, c163, c164, c165, c166, c167, c168, c169, c170, c171, c172, c173, c174, c175, c176, c177, c178, c179, c180, c181, c182, c183, c184, c185, c186, c187, c188, c189, c190, c191, c192, c193, c194, c195, c196, c197, c198, c199, c200, c201, c202, c203, c204, c205, c206, c207, c208, c209, c210, c211, c212, c213, c214, c215, c216, c217, c218, c219, c220, c221, c222, c223, c224, c225, c226, c227, c228, c229, c230, c231, c232, c233, c234, c235, c236, c237, c238, c239, c240, c241, c242, c243, c244, c245, c246, c247, c248, c249, c250, c251, c252, c253, c254, c255, c256, c257, c258, c259, c260, c261, c262, c263], []⟩ w := by
  conv => arg 2; whnf
  obtain ⟨p, m, L, last, a, n, c, R, p', m', L', last', a', n', c', R', V, hb1, hb2, hT9⟩ := hP.out
  subst hkind
  have hon := V.on2
  have hon0 : (0 : Int) ≤ (on : Int) := by omega
  have hon2 : (on : Int) < 2 := by omega
  have hbw : base ≤ w.heap.size := by have h1 := V.bs.1; have h2 := V.sd.net.lt; omega

  have y4 := h9.out.cells.2.2.1
  have kL := hid (lent_own ba bc len body w hl.out hlen hat.out)
  replace V := hid V
  go_wp2_with fail
  refine kL.out.mono ?_
  rintro e w2 ⟨gi, cg, rfl, hcg, hgi0, hOw, B2⟩
  have hgi2 : gi < w2.heap.size := (hOw.lt gi rfl).2
  have hin := (own_at hOw).pre
  obtain ⟨num, ec, last1, SO, hl1, kS, kR⟩ := send_both V.out fr to ba len bc gi cg body hl.out (by omega)
  clear kL y4
  replace hOw := hid hOw
  replace kS := hid kS
  replace kR := hid kR
  replace hin := hid hin
  replace B2 := hid B2
  go_wp2_with fail
  replace V := V.out
  replace kS := kS.out
  replace hin := hin.out
  replace B2 := B2.out
  refine wp_region_lag 12 [11] (Bf := TB w2) (Af := SA w w2 p m SO last1) (C := 8) (Pr := PrV (pv17 gd on p g9 gi len cg fr to num ec) [] (fun _ _ _ => True)) (by kernel_rfl) (by kernel_rfl) (by decide) (by decide) (by decide) (drew_below _) ?_ (by kernel_rfl) ?_
  · refine ⟨?_, ?_, ?_, ?_, ?_, ?_, ?_, ?_, ?_, ?_, ?_, ?_, trivial⟩
    · exact fun ac w hC hBA hd hk K hK => yes (want_n rfl) (wp_mv _ rfl _ (get_keep (hk 10 (no_dst (by kernel_rfl))) rfl) (hK _ w (PrV.is rfl rfl) (fun e => absurd e (by decide)) (fun _ => ⟨id, id⟩) (fun _ _ _ h => h)))
    · intro ac w hC hBA hd hk K hK
      have e5 : ac.tmps[5]?.getD undef = (.pointer (some ⟨gd, 0, none⟩) : Value) := slot (get_keep (hk 5 (no_dst (by kernel_rfl))) rfl)
      have e82 : ac.tmps[82]?.getD undef = (.int .i64 (on : Int) : Value) := slot ((hd 0 _ 82 rfl rfl rfl).val rfl)
      refine yes (want_n rfl) ?_
      have hv := hid (hK (.pointer (some ⟨gd, on, none⟩)) w (PrV.is rfl rfl) (fun e => absurd e (by decide)) (fun _ => ⟨id, id⟩) (fun _ _ _ h => h))
      clear hK hC hBA hd hk
      go_simp
      refine kq hv.out ?_
      rfl
    · intro ac w hC hBA hd hk K hK
      have e83 : ac.tmps[83]?.getD undef = (.pointer (some ⟨gd, on, none⟩) : Value) := slot ((hd 1 _ 83 rfl rfl rfl).val rfl)
      have x0 := V.dk ((Kp.of_below B2).trans (sba hBA))
      refine yes (want_n rfl) ?_
      have hv := hid (hK (.pointer (some ⟨p, 0, none⟩)) w (PrV.is rfl rfl) (fun e => absurd e (by decide)) (fun _ => ⟨id, id⟩) (fun _ _ _ h => h))
      clear hK hC hBA hd hk
      go_simp
      refine kq hv.out ?_
      rfl
    · intro ac w hC hBA hd hk K hK
      have e9 : ac.tmps[9]?.getD undef = (.pointer (some ⟨g9, 0, none⟩) : Value) := slot (get_keep (hk 9 (no_dst (by kernel_rfl))) rfl)
      refine yes (want_n rfl) ?_
      have hv := hid (hK (.pointer (some ⟨g9, 2, none⟩)) w (PrV.is rfl rfl) (fun e => absurd e (by decide)) (fun _ => ⟨id, id⟩) (fun _ _ _ h => h))
      clear hK hC hBA hd hk
      go_simp
      refine kq hv.out ?_
      rfl
    · intro ac w hC hBA hd hk K hK
      have e85 : ac.tmps[85]?.getD undef = (.pointer (some ⟨g9, 2, none⟩) : Value) := slot ((hd 3 _ 85 rfl rfl rfl).val rfl)
      have x0 := (h9.out.kt hT9 ((Kp.of_below B2).trans (sba hBA))).cells.1
      refine yes (want_n rfl) ?_
      have hv := hid (hK (.int .i64 fr) w (PrV.is rfl rfl) (fun e => absurd e (by decide)) (fun _ => ⟨id, id⟩) (fun _ _ _ h => h))
      clear hK hC hBA hd hk
      go_simp
      refine kq hv.out ?_
      rfl
    · intro ac w hC hBA hd hk K hK
      have e9 : ac.tmps[9]?.getD undef = (.pointer (some ⟨g9, 0, none⟩) : Value) := slot (get_keep (hk 9 (no_dst (by kernel_rfl))) rfl)
      refine yes (want_n rfl) ?_
      have hv := hid (hK (.pointer (some ⟨g9, 3, none⟩)) w (PrV.is rfl rfl) (fun e => absurd e (by decide)) (fun _ => ⟨id, id⟩) (fun _ _ _ h => h))
      clear hK hC hBA hd hk
      go_simp
      refine kq hv.out ?_
      rfl
    · intro ac w hC hBA hd hk K hK
      have e87 : ac.tmps[87]?.getD undef = (.pointer (some ⟨g9, 3, none⟩) : Value) := slot ((hd 5 _ 87 rfl rfl rfl).val rfl)
      have x0 := (h9.out.kt hT9 ((Kp.of_below B2).trans (sba hBA))).cells.2.1
      refine yes (want_n rfl) ?_
      have hv := hid (hK (.int .i64 to) w (PrV.is rfl rfl) (fun e => absurd e (by decide)) (fun _ => ⟨id, id⟩) (fun _ _ _ h => h))
      clear hK hC hBA hd hk
      go_simp
      refine kq hv.out ?_
      rfl
    · exact fun ac w hC hBA hd hk K hK => yes (want_n rfl) (wp_mv _ rfl _ (get_keep (hk 12 (no_dst (by kernel_rfl))) rfl) (hK _ w (PrV.is rfl rfl) (fun e => absurd e (by decide)) (fun _ => ⟨id, id⟩) (fun _ _ _ h => h)))
    · intro ac w hC hBA hd hk K hK
      refine yes (want_n rfl) ?_
      refine wp_callv 10 _ _ rfl _ Try.func10 rfl rfl _ (args4 ((hd 2 _ 84 rfl rfl rfl).val rfl) ((hd 4 _ 86 rfl rfl rfl).val rfl) ((hd 6 _ 88 rfl rfl rfl).val rfl) ((hd 7 _ 89 rfl rfl rfl).val rfl)) (kS w (bnext B2 (hC rfl)) (hin.below (hC rfl))) ?_
      rintro e w' ⟨L1, rfl, hSO, hN1, hof, hk1⟩
      exact ⟨_, rfl, hK _ w' (PrV.is rfl rfl) (fun _ => ⟨w, L1, hC rfl, hSO, hN1, hof, (Kp.of_below (hC rfl)).trans hk1, hk1.size⟩) (fun h => absurd rfl h) (fun j u hj h => PrV.mono2 id h)⟩
    · exact fun ac w hC hBA hd hk K hK => yes (want_n rfl) (wp_mv _ rfl _ ((hd 8 _ 90 rfl rfl rfl).val rfl) (hK _ w (PrV.is rfl rfl) (fun e => absurd e (by decide)) (fun _ => ⟨id, id⟩) (fun _ _ _ h => h)))
    · intro ac w hC hBA hd hk K hK
      have e81 : ac.tmps[81]?.getD undef = (.tuple #[.int .i64 num, .int .i64 ec] : Value) := slot ((hd 9 _ 81 rfl rfl rfl).val rfl)
      refine yes (want_n rfl) ?_
      have hv := hid (hK (.int .i64 num) w (PrV.is rfl rfl) (fun e => absurd e (by decide)) (fun _ => ⟨id, id⟩) (fun _ _ _ h => h))
      clear hK hC hBA hd hk
      go_simp
      refine kq hv.out ?_
      rfl
    · intro ac w hC hBA hd hk K hK
      have e81 : ac.tmps[81]?.getD undef = (.tuple #[.int .i64 num, .int .i64 ec] : Value) := slot ((hd 9 _ 81 rfl rfl rfl).val rfl)
      refine yes (want_n rfl) ?_
      have hv := hid (hK (.int .i64 ec) w (PrV.is rfl rfl) (fun e => absurd e (by decide)) (fun _ => ⟨id, id⟩) (fun _ _ _ h => h))
      clear hK hC hBA hd hk
      go_simp
      refine kq hv.out ?_
      rfl
  · intro bb ac wA hdf hsz hkp hval hAf
    have q90 : ac.tmps.getD 90 undef = (.tuple #[.int .i64 num, .int .i64 ec] : Value) := (hval 8 _ 90 (fun h => absurd h (by decide)) rfl rfl).val rfl
    have q81 : ac.tmps.getD 81 undef = (.tuple #[.int .i64 num, .int .i64 ec] : Value) := (hval 9 _ 81 (fun h => absurd h (by decide)) rfl rfl).val rfl
    have q91 : ac.tmps.getD 91 undef = (.int .i64 num : Value) := (hval 10 _ 91 (fun h => absurd h (by decide)) rfl rfl).val rfl
    obtain ⟨f, hf⟩ : ∃ f, f = fun d => ac.tmps.getD d undef := ⟨_, rfl⟩
    have h90 : f 90 = (.tuple #[.int .i64 num, .int .i64 ec] : Value) := by rw [hf]; exact q90
    have h81 : f 81 = (.tuple #[.int .i64 num, .int .i64 ec] : Value) := by rw [hf]; exact q81
    have h91 : f 91 = (.int .i64 num : Value) := by rw [hf]; exact q91
    have hfa := act_filled hdf hsz hkp
    rw [← hf] at hfa
    rw [hfa]
    cases hb11 : bb 11
    · skip
      have hlag : lagOf 14 12 [11] bb = #[true, true, true, true, true, true, true, true, true, true, true, false, false, false] := by rw [show lagOf 14 12 [11] bb = #[true, true, true, true, true, true, true, true, true, true, true, bb 11, false, false] from rfl, hb11]
      change wpAny Try.prog .any _ _ (14 - (lagOf 14 12 [11] bb).toList.count true) (lagOf 14 12 [11] bb) _ _
      rw [hlag]
      clear hlag hdf hsz hkp hval hfa hf
      simp only [fillAll, List.take, List.set_cons_zero, List.set_cons_succ, h90, h81, h91]
      clear h90 h81 h91 q90 q81 q91 hb11
      obtain ⟨ws, L1, hws, hSO, hNA, hofA, hk2A, hsA⟩ := hAf
      have hkA := (Kp.of_below (S := Turn p m) B2).trans hk2A
      have hs1 : w.heap.size ≤ ws.heap.size := Nat.le_trans B2.size hws.size
      have hs3 : w2.heap.size ≤ ws.heap.size := hws.size
      have hatA := hat.out.kp2 hkA (fun hl0 x hx e => by have h1 := hba.out hl0 x hx; have h2 := V.bs; rcases e with e | e <;> omega)
      clear kS
      replace V := hid V
      replace hNA := hid hNA
      replace hkA := hid hkA
      replace hk2A := hid hk2A
      replace hatA := hid hatA
      replace hSO := hid hSO
      replace hofA := hid hofA
      replace hws := hid hws
      replace B2 := hid B2
      change wpAny Try.prog .any _ _ (2 + 1) _ _ _
      refine wpAny_take (i := 11) (v := .int .i64 ec) rfl (by kernel_rfl) (by kernel_rfl) (by kernel_rfl) (fun _ _ _ h => h) (Or.inl ⟨by rfl, ?_⟩) ?_
      · intro w
        go_simp
      change wpAny Try.prog .any _ _ (1 + 1) _ _ _
      refine wpAny_ready (rs := [12]) (by kernel_rfl) (by simp) ?_
      refine AllReady.cons rfl (fun K hK => ?_) AllReady.nil
      go_simp
      refine hK _ _ ?_
      clear hK K
      change wpAny Try.prog .any _ _ (0 + 1) _ _ _
      refine wpAny_ready (rs := [13]) (by kernel_rfl) (by simp) ?_
      refine AllReady.cons rfl (fun K hK => ?_) AllReady.nil
      go_simp
      refine hK _ _ ?_
      clear hK K
      refine wpAny_done (by kernel_rfl) ?_ _
      go_wp2_with fail
      replace V := V.out
      replace hNA := hNA.out
      replace hkA := hkA.out
      replace hatA := hatA.out
      replace hSO := hSO.out
      replace kR := kR.out
      refine wp_region_lag 15 [12, 13] (Bf := (fun w' => Below wA.heap.size wA w')) (Af := (fun w' => Below wA.heap.size wA w')) (C := 9) (Pr := PrV (pv18 gl on n c last g9 len bc a ba fr to) [9, 10, 11, 12, 13, 14] (R22 9 (T6 p m p' m' gd gl) (Off w.heap.size wA.heap.size) wA.heap.size p m L1 last1 num ec)) (by kernel_rfl) (by kernel_rfl) (by decide) (by decide) (by decide) (drew_below _) ?_ (by kernel_rfl) ?_
      · refine ⟨?_, ?_, ?_, ?_, ?_, ?_, ?_, ?_, ?_, ?_, ?_, ?_, ?_, ?_, ?_, trivial⟩
        · exact fun ac w hC hBA hd hk K hK => yes (want_n rfl) (wp_mv _ rfl _ (get_keep (hk 10 (no_dst (by kernel_rfl))) rfl) (hK _ w (PrV.is rfl rfl) (fun e => absurd e (by decide)) (fun _ => ⟨id, id⟩) (fun _ _ _ h => h)))
        · intro ac w hC hBA hd hk K hK
          have e6 : ac.tmps[6]?.getD undef = (.pointer (some ⟨gl, 0, none⟩) : Value) := slot (get_keep (hk 6 (no_dst (by kernel_rfl))) rfl)
          have e94 : ac.tmps[94]?.getD undef = (.int .i64 (on : Int) : Value) := slot ((hd 0 _ 94 rfl rfl rfl).val rfl)
          refine yes (want_n rfl) ?_
          have hv := hid (hK (.pointer (some ⟨gl, on * 2, none⟩)) w (PrV.is rfl rfl) (fun e => absurd e (by decide)) (fun _ => ⟨id, id⟩) (fun _ _ _ h => h))
          clear hK hC hBA hd hk
          go_simp
          refine kq hv.out ?_
          rfl
        · intro ac w hC hBA hd hk K hK
          have e95 : ac.tmps[95]?.getD undef = (.pointer (some ⟨gl, on * 2, none⟩) : Value) := slot ((hd 1 _ 95 rfl rfl rfl).val rfl)
          have x := V.lk (hkA.then (hBA.elim id id))
          have x0 := x.1
          have x1 := x.2
          clear x
          refine yes (want_n rfl) ?_
          have hv := hid (hK (.agg #[.slice a n c, .int .i64 (last : Int)]) w (PrV.is rfl rfl) (fun e => absurd e (by decide)) (fun _ => ⟨id, id⟩) (fun _ _ _ h => h))
          clear hK hC hBA hd hk
          go_simp
          refine kq hv.out ?_
          rfl
        · intro ac w hC hBA hd hk K hK
          have e9 : ac.tmps[9]?.getD undef = (.pointer (some ⟨g9, 0, none⟩) : Value) := slot (get_keep (hk 9 (no_dst (by kernel_rfl))) rfl)
          refine yes (want_n rfl) ?_
          have hv := hid (hK (.pointer (some ⟨g9, 2, none⟩)) w (PrV.is rfl rfl) (fun e => absurd e (by decide)) (fun _ => ⟨id, id⟩) (fun _ _ _ h => h))
          clear hK hC hBA hd hk
          go_simp
          refine kq hv.out ?_
          rfl
        · intro ac w hC hBA hd hk K hK
          have e97 : ac.tmps[97]?.getD undef = (.pointer (some ⟨g9, 2, none⟩) : Value) := slot ((hd 3 _ 97 rfl rfl rfl).val rfl)
          have x0 := (h9.out.kt hT9 (hkA.then (hBA.elim id id))).cells.1
          refine yes (want_n rfl) ?_
          have hv := hid (hK (.int .i64 fr) w (PrV.is rfl rfl) (fun e => absurd e (by decide)) (fun _ => ⟨id, id⟩) (fun _ _ _ h => h))
          clear hK hC hBA hd hk
          go_simp
          refine kq hv.out ?_
          rfl
        · intro ac w hC hBA hd hk K hK
          have e9 : ac.tmps[9]?.getD undef = (.pointer (some ⟨g9, 0, none⟩) : Value) := slot (get_keep (hk 9 (no_dst (by kernel_rfl))) rfl)
          refine yes (want_n rfl) ?_
          have hv := hid (hK (.pointer (some ⟨g9, 3, none⟩)) w (PrV.is rfl rfl) (fun e => absurd e (by decide)) (fun _ => ⟨id, id⟩) (fun _ _ _ h => h))
          clear hK hC hBA hd hk
          go_simp
          refine kq hv.out ?_
          rfl
        · intro ac w hC hBA hd hk K hK
          have e99 : ac.tmps[99]?.getD undef = (.pointer (some ⟨g9, 3, none⟩) : Value) := slot ((hd 5 _ 99 rfl rfl rfl).val rfl)
          have x0 := (h9.out.kt hT9 (hkA.then (hBA.elim id id))).cells.2.1
          refine yes (want_n rfl) ?_
          have hv := hid (hK (.int .i64 to) w (PrV.is rfl rfl) (fun e => absurd e (by decide)) (fun _ => ⟨id, id⟩) (fun _ _ _ h => h))
          clear hK hC hBA hd hk
          go_simp
          refine kq hv.out ?_
          rfl
        · intro ac w hC hBA hd hk K hK
          have e9 : ac.tmps[9]?.getD undef = (.pointer (some ⟨g9, 0, none⟩) : Value) := slot (get_keep (hk 9 (no_dst (by kernel_rfl))) rfl)
          refine yes (want_n rfl) ?_
          have hv := hid (hK (.pointer (some ⟨g9, 4, none⟩)) w (PrV.is rfl rfl) (fun e => absurd e (by decide)) (fun _ => ⟨id, id⟩) (fun _ _ _ h => h))
          clear hK hC hBA hd hk
          go_simp
          refine kq hv.out ?_
          rfl
        · intro ac w hC hBA hd hk K hK
          have e101 : ac.tmps[101]?.getD undef = (.pointer (some ⟨g9, 4, none⟩) : Value) := slot ((hd 7 _ 101 rfl rfl rfl).val rfl)
          have x0 := (h9.out.kt hT9 (hkA.then (hBA.elim id id))).cells.2.2.1
          refine yes (want_n rfl) ?_
          have hv := hid (hK (.slice ba len bc) w (PrV.is rfl rfl) (fun e => absurd e (by decide)) (fun _ => ⟨id, id⟩) (fun _ _ _ h => h))
          clear hK hC hBA hd hk
          go_simp
          refine kq hv.out ?_
          rfl
        · intro ac w hC hBA hd hk K hK
          refine yes (want_n rfl) ?_
          refine wp_callv 16 _ _ rfl _ Try.func16 rfl rfl _ (args4 ((hd 2 _ 96 rfl rfl rfl).val rfl) ((hd 4 _ 98 rfl rfl rfl).val rfl) ((hd 6 _ 100 rfl rfl rfl).val rfl) ((hd 8 _ 102 rfl rfl rfl).val rfl)) (kR ws w L1 hs1 (Nat.le_trans hsA (Below.size (hC rfl))) hSO (hNA.below (hC rfl)) (hkA.then (hC rfl)) (hatA.below (hC rfl))) ?_
          rintro e w' ⟨a1, n1, c1, R1, rfl, hS, hOf, hbw⟩
          exact ⟨_, rfl, hK _ w' (PrV.by rfl ⟨a1, n1, c1, R1, rfl, hS, hOf.mono (Below.size (hC rfl))⟩) (fun _ => bnext (hC rfl) hbw) (fun h => absurd rfl h) (fun j u hj h => PrV.mono2 (R22.below hbw) h)⟩
        · intro ac w hC hBA hd hk K hK
          obtain ⟨a1, n1, c1, R1, e1, hS, hOf⟩ := ((hd 9 _ 103 rfl rfl rfl).out rfl)
          exact yes (want_n rfl) (wp_mv _ rfl _ e1 (hK _ w (PrV.by rfl ⟨a1, n1, c1, R1, rfl, hS, hOf⟩) (fun e => absurd e (by decide)) (fun _ => ⟨id, id⟩) (fun _ _ _ h => h)))
        · intro ac w hC hBA hd hk K hK
          obtain ⟨a1, n1, c1, R1, e1, hS, hOf⟩ := ((hd 10 _ 93 rfl rfl rfl).out rfl)
          have e2 := slot e1
          refine yes (want_n rfl) ?_
          have hv := hid (hK (.agg #[.slice a1 n1 c1, .int .i64 (last1 : Int)]) w (PrV.by rfl ⟨a1, n1, c1, R1, rfl, hS, hOf⟩) (fun e => absurd e (by decide)) (fun _ => ⟨id, id⟩) (fun _ _ _ h => h))
          clear hK hC hBA hd hk hS
          go_simp
          exact hv.out
        · intro ac w hC hBA hd hk K hK
          obtain ⟨a1, n1, c1, R1, e1, hS, hOf⟩ := ((hd 10 _ 93 rfl rfl rfl).out rfl)
          have e2 := slot e1
          refine yes (want_n rfl) ?_
          have hv := hid (hK (.int .i64 num) w (PrV.by rfl rfl) (fun e => absurd e (by decide)) (fun _ => ⟨id, id⟩) (fun _ _ _ h => h))
          clear hK hC hBA hd hk hS
          go_simp
          exact hv.out
        · intro ac w hC hBA hd hk K hK
          obtain ⟨a1, n1, c1, R1, e1, hS, hOf⟩ := ((hd 10 _ 93 rfl rfl rfl).out rfl)
          have e2 := slot e1
          refine yes (want_n rfl) ?_
          have hv := hid (hK (.int .i64 ec) w (PrV.by rfl rfl) (fun e => absurd e (by decide)) (fun _ => ⟨id, id⟩) (fun _ _ _ h => h))
          clear hK hC hBA hd hk hS
          go_simp
          exact hv.out
        · intro ac w hC hBA hd hk K hK
          have hbl := below_lit w (.cells z40 40)
          have hsz := (hBA.elim id id : Below wA.heap.size wA w).size
          have hv := hid (hK (.pointer (some ⟨w.heap.size, 0, none⟩)) (w.alloc (.cells z40 40)) (PrV.by rfl ⟨w.heap.size, rfl, hsz, by rw [World.size_alloc]; omega, heap_alloc_new w _⟩) (fun e => absurd e (by decide)) (fun _ => ⟨fun h => bnext h hbl, fun h => bnext h hbl⟩) (fun j u hj h => PrV.mono2 (R22.below hbl) h))
          refine yes (want_n rfl) ?_
          clear hK hC hBA hd hk
          go_simp
          exact hv.out
      · intro bb ac wB hdf hsz hkp hval bB
        obtain ⟨_, _, _, _, q93, _, _⟩ := (hval 10 _ 93 (fun h => absurd h (by decide)) rfl rfl).out rfl
        obtain ⟨a1, n1, c1, R1, q104, hS, hOf⟩ := (hval 11 _ 104 (fun h => absurd h (by decide)) rfl rfl).out rfl
        obtain ⟨g40, q15, hg40, hl40, hz40⟩ := (hval 14 _ 15 (fun h => absurd h (by decide)) rfl rfl).out rfl
        obtain ⟨f, hf⟩ : ∃ f, f = fun d => ac.tmps.getD d undef := ⟨_, rfl⟩
        have h93 := (congrFun hf 93).trans q93
        have h104 := (congrFun hf 104).trans q104
        have h15 := (congrFun hf 15).trans q15
        have hfa := act_filled hdf hsz hkp
        rw [← hf] at hfa
        rw [hfa]
        cases hb12 : bb 12
        · skip
          cases hb13 : bb 13
          · skip
            have hlag : lagOf 18 15 [12, 13] bb = #[true, true, true, true, true, true, true, true, true, true, true, true, false, false, true, false, false, false] := by rw [show lagOf 18 15 [12, 13] bb = #[true, true, true, true, true, true, true, true, true, true, true, true, bb 12, bb 13, true, false, false, false] from rfl, hb12, hb13]
            change wpAny Try.prog .any _ _ (18 - (lagOf 18 15 [12, 13] bb).toList.count true) (lagOf 18 15 [12, 13] bb) _ _
            rw [hlag]
            clear hlag hdf hsz hkp hval hfa hf
            simp only [fillAll, List.take, List.set_cons_zero, List.set_cons_succ, h93, h104, h15]
            clear h93 h104 h15 q93 q104 q15 hb12 hb13
            have hz40' : wB.heap[g40]? = some (.cells #[.slice none 0 0, .int .i64 0] 40 (0, 0)) := hz40
            have y0 : wB.cell? ⟨g40, 0, none⟩ = some (.slice none 0 0) := by simp [World.cell?, hz40']
            have y1 : wB.cell? ⟨g40, 1, none⟩ = some (.int .i64 0) := by simp [World.cell?, hz40']
            have u0 : wB.frozen? ⟨g40, 0, none⟩ = false := by simp [World.frozen?, hz40']
            have u1 : wB.frozen? ⟨g40, 1, none⟩ = false := by simp [World.frozen?, hz40']
            have hzz : ∀ k, k = g40 → ZB wB k ∧ wA.heap.size ≤ k := fun k e => by subst e; exact ⟨.inl hz40', hg40⟩
            have hkS := two_cells wB g40 (.slice a1 n1 c1) (.int .i64 (last1 : Int))
            have hSS := hid (hS.news hkS hzz (fun q hq x hx => hNA.bodies.lt q hq x hx) hNA.lt hNA.own.lt)
            have hrb := two_r hz40' (.slice a1 n1 c1) (.int .i64 (last1 : Int))
            have hglB : ¬ gl = g40 := fun e => by have h1 := V.llt; have h3 := hkA.size; omega
            have hglS := hkS.block gl (by have h1 := V.llt; have h3 := hkA.size; have h4 := bB.size; omega) hglB
            rw [bB.block gl (by have h1 := V.llt; have h3 := hkA.size; omega), V.gla hkA] at hglS
            have hX : ∀ k, k = g40 → w.heap.size ≤ k := fun k e => Nat.le_trans hkA.size (hzz k e).2
            have hgg : gl < wB.heap.size ∧ g40 < wB.heap.size := ⟨by have h1 := V.llt; have h3 := hkA.size; have h4 := bB.size; omega, hl40⟩
            replace hS := hid hS
            replace hz40 := hid hz40
            replace hz40' := hid hz40'
            replace hzz := hid hzz
            replace hkS := hid hkS
            replace hrb := hid hrb
            replace hglS := hid hglS
            replace hX := hid hX
            replace hglB := hid hglB
            replace V := hid V
            replace hNA := hid hNA
            replace hkA := hid hkA
            replace bB := hid bB
            try clear kR
            change wpAny Try.prog .any _ _ (4 + 1) _ _ _
            refine wpAny_take (i := 12) (v := .int .i64 num) rfl (by kernel_rfl) (by kernel_rfl) (by kernel_rfl) (fun _ _ _ h => h) (Or.inl ⟨by rfl, ?_⟩) ?_
            · intro w
              go_simp
            change wpAny Try.prog .any _ _ (3 + 1) _ _ _
            refine wpAny_take (i := 13) (v := .int .i64 ec) rfl (by kernel_rfl) (by kernel_rfl) (by kernel_rfl) (fun _ _ _ h => h) (Or.inl ⟨by rfl, ?_⟩) ?_
            · intro w
              go_simp
            change wpAny Try.prog .any _ _ (2 + 1) _ _ _
            refine wpAny_ready (rs := [15]) (by kernel_rfl) (by simp) ?_
            refine AllReady.cons rfl (fun K hK => ?_) AllReady.nil
            go_simp
            refine hK _ _ ?_
            clear hK K
            change wpAny Try.prog .any _ _ (1 + 1) _ _ _
            refine wpAny_ready (rs := [16]) (by kernel_rfl) (by simp) ?_
            refine AllReady.cons rfl (fun K hK => ?_) AllReady.nil
            go_simp
            refine hK _ _ ?_
            clear hK K
            change wpAny Try.prog .any _ _ (0 + 1) _ _ _
            refine wpAny_ready (rs := [17]) (by kernel_rfl) (by simp) ?_
            refine AllReady.cons rfl (fun K hK => ?_) AllReady.nil
            go_simp
            refine hK _ _ ?_
            clear hK K
            refine wpAny_done (by kernel_rfl) ?_ _
            replace V := V.out
            replace hNA := hNA.out
            replace hkA := hkA.out
            replace bB := bB.out
            clear y0 y1 u0 u1
            generalize (wB.setCell ⟨g40, 0, none⟩ (.slice a1 n1 c1)).setCell ⟨g40, 1, none⟩ (.int .i64 (last1 : Int)) = wS at *
            have r0 := hrb.out.cell0
            have r1 := hrb.out.cell1
            have l0 := (lcell hglS.out hon).1
            have l1 := (lcell hglS.out hon).2.1
            have k0 := (lcell hglS.out hon).2.2.1
            have k1 := (lcell hglS.out hon).2.2.2
            have hfin := V.fin hkA bB hkS.out hX.out hbw hSS.out
            replace V := hid V
            replace hNA := hid hNA
            replace hkA := hid hkA
            replace bB := hid bB
            replace hfin := hid hfin
            have hgi9 : ¬ gi = gl := fun e => by have h1 := V.out.llt; omega
            have hOwA := hid ((hOw.out.kp hk2A.out (fun k e1 e2 => by
              have e3 : gi = k := Option.some.inj e1
              rw [← e3] at e2
              have h1 := V.out.sd.net.lt
              have h2 := V.out.sd.net.own.lt
              rcases e2 with e2 | e2 <;> omega)).below bB.out)
            have hgA : gi < wA.heap.size := by have h1 := hk2A.out.size; omega
            have hOwS := hid (hOwA.out.kp hkS.out (fun k e1 e2 => by
              have e3 : gi = k := Option.some.inj e1
              have h1 := (hzz.out k e2).2
              omega))
            have kE := hid (two_gl1 wS gl on (.slice a1 n1 c1) (.int .i64 (last1 : Int)))
            have hOwE := hid (hOwS.out.kp kE.out (fun k e1 e2 => by
              have e3 : gi = k := Option.some.inj e1
              omega))
            have hatE := hid (((hatA.below bB.out).kp2 hkS.out (fun hl0 x hx e => by have h1 := hba.out hl0 x hx; have h2 := (hzz.out _ e).2; have h3 := hkA.out.size; omega)).kp2 kE.out (fun hl0 x hx e => by have h1 := hba.out hl0 x hx; have h2 := V.out.bs.2.2.2.2.2; omega))
            have h9n : ¬ g9 = gl := fun e => hT9 (by simp [T6, e])
            have h9lt := h9.out.lt
            have h9S := hid (((h9.out.kt hT9 hkA.out).kp (Kp.of_below (S := fun _ => False) bB.out) (fun e => e)).kp hkS.out (fun e => by have h2 := (hzz.out _ e).2; have h3 := hkA.out.size; omega))
            have x94 := h9S.out.cells.2.2.1
            have h9n' : ¬ gl = g9 := fun e => h9n e.symm
            go_wp2_with fail
            generalize (wS.setCell ⟨gl, on * 2, none⟩ (.slice a1 n1 c1)).setCell ⟨gl, on * 2 + 1, none⟩ (.int .i64 (last1 : Int)) = wE at *
            refine (kept_any gi cg bc len ba body _ hl.out hlen hcg (own_at hOwE.out) hatE.out).mono ?_
            rintro e w9 ⟨rfl, rfl⟩
            clear x94 r0 r1 l0 l1 k0 k1
            go_wp2_with fail
            refine (over_any gi cg len w.heap.size (body ++ [77, 78, 79]) _ hlen hcg (by rw [List.length_append, hl.out]; rfl) hOwE.out).mono ?_
            rintro e wO ⟨rfl, hkO⟩
            have hV9 := hid (V.out.over hfin.out.1 hkO hgi0 (fun q hq x hx e => by have h1 := hofA.out q hq x hx; omega) (fun x hx e => by have h1 := hOf.a x hx; omega) (fun q hq x hx e => by have h1 := hOf.r q hq x hx; omega))
            have hB9 := hid (hfin.out.2.trans (hkO.below (fun k e => by omega) (Nat.le_trans hbw hfin.out.2.size)))
            go_wp2_with fail
            have hPN : PN base gd gl on wO (b + 1) := ⟨_, _, _, _, _, _, _, _, _, _, _, _, _, _, _, _, hV9.out, by omega, by omega⟩
            exact hN.out _ _ _ _ _ _ _ _ _ _ _ _ _ _ _ _ _ _ _ _ _ _ _ _ _ _ _ _ _ _ _ _ _ _ _ _ _ _ _ _ _ _ _ _ _ _ _ _ _ _ _ _ _ _ _ _ _ _ _ _ _ _ _ _ _ _ _ _ _ _ _ _ _ _ _ _ _ _ _ _ _ _ _ _ _ _ _ _ _ _ _ _ _ _ _ _ _ _ _ _ _ _ _ _ _ _ _ _ _ _ _ _ _ _ _ _ _ _ _ _ _ _ _ _ _ _ _ _ _ _ _ _ _ _ _ _ _ _ _ _ _ _ _ _ _ _ _ _ _ _ _ _ _ _ _ _ _ _ _ _ _ _ _ _ _ _ _ _ _ _ _ _ _ _ _ _ hPN hB9.out
          · skip
            have hlag : lagOf 18 15 [12, 13] bb = #[true, true, true, true, true, true, true, true, true, true, true, true, false, true, true, false, false, false] := by rw [show lagOf 18 15 [12, 13] bb = #[true, true, true, true, true, true, true, true, true, true, true, true, bb 12, bb 13, true, false, false, false] from rfl, hb12, hb13]
            obtain q106 := (hval 13 _ 106 (fun _ => hb13) rfl rfl).out rfl
            have h106 := (congrFun hf 106).trans q106
            change wpAny Try.prog .any _ _ (18 - (lagOf 18 15 [12, 13] bb).toList.count true) (lagOf 18 15 [12, 13] bb) _ _
            rw [hlag]
            clear hlag hdf hsz hkp hval hfa hf
            simp only [fillAll, List.take, List.set_cons_zero, List.set_cons_succ, h93, h104, h15, h106]
            clear h93 h104 h15 h106 q93 q104 q15 q106 hb12 hb13
            have hz40' : wB.heap[g40]? = some (.cells #[.slice none 0 0, .int .i64 0] 40 (0, 0)) := hz40
            have y0 : wB.cell? ⟨g40, 0, none⟩ = some (.slice none 0 0) := by simp [World.cell?, hz40']
            have y1 : wB.cell? ⟨g40, 1, none⟩ = some (.int .i64 0) := by simp [World.cell?, hz40']
            have u0 : wB.frozen? ⟨g40, 0, none⟩ = false := by simp [World.frozen?, hz40']
            have u1 : wB.frozen? ⟨g40, 1, none⟩ = false := by simp [World.frozen?, hz40']
            have hzz : ∀ k, k = g40 → ZB wB k ∧ wA.heap.size ≤ k := fun k e => by subst e; exact ⟨.inl hz40', hg40⟩
            have hkS := two_cells wB g40 (.slice a1 n1 c1) (.int .i64 (last1 : Int))
            have hSS := hid (hS.news hkS hzz (fun q hq x hx => hNA.bodies.lt q hq x hx) hNA.lt hNA.own.lt)
            have hrb := two_r hz40' (.slice a1 n1 c1) (.int .i64 (last1 : Int))
            have hglB : ¬ gl = g40 := fun e => by have h1 := V.llt; have h3 := hkA.size; omega
            have hglS := hkS.block gl (by have h1 := V.llt; have h3 := hkA.size; have h4 := bB.size; omega) hglB
            rw [bB.block gl (by have h1 := V.llt; have h3 := hkA.size; omega), V.gla hkA] at hglS
            have hX : ∀ k, k = g40 → w.heap.size ≤ k := fun k e => Nat.le_trans hkA.size (hzz k e).2
            have hgg : gl < wB.heap.size ∧ g40 < wB.heap.size := ⟨by have h1 := V.llt; have h3 := hkA.size; have h4 := bB.size; omega, hl40⟩
            replace hS := hid hS
            replace hz40 := hid hz40
            replace hz40' := hid hz40'
            replace hzz := hid hzz
            replace hkS := hid hkS
            replace hrb := hid hrb
            replace hglS := hid hglS
            replace hX := hid hX
            replace hglB := hid hglB
            replace V := hid V
            replace hNA := hid hNA
            replace hkA := hid hkA
            replace bB := hid bB
            try clear kR
            change wpAny Try.prog .any _ _ (3 + 1) _ _ _
            refine wpAny_take (i := 12) (v := .int .i64 num) rfl (by kernel_rfl) (by kernel_rfl) (by kernel_rfl) (fun _ _ _ h => h) (Or.inl ⟨by rfl, ?_⟩) ?_
            · intro w
              go_simp
            change wpAny Try.prog .any _ _ (2 + 1) _ _ _
            refine wpAny_ready (rs := [15]) (by kernel_rfl) (by simp) ?_
            refine AllReady.cons rfl (fun K hK => ?_) AllReady.nil
            go_simp
            refine hK _ _ ?_
            clear hK K
            change wpAny Try.prog .any _ _ (1 + 1) _ _ _
            refine wpAny_ready (rs := [16]) (by kernel_rfl) (by simp) ?_
            refine AllReady.cons rfl (fun K hK => ?_) AllReady.nil
            go_simp
            refine hK _ _ ?_
            clear hK K
            change wpAny Try.prog .any _ _ (0 + 1) _ _ _
            refine wpAny_ready (rs := [17]) (by kernel_rfl) (by simp) ?_
            refine AllReady.cons rfl (fun K hK => ?_) AllReady.nil
            go_simp
            refine hK _ _ ?_
            clear hK K
            refine wpAny_done (by kernel_rfl) ?_ _
            replace V := V.out
            replace hNA := hNA.out
            replace hkA := hkA.out
            replace bB := bB.out
            clear y0 y1 u0 u1
            generalize (wB.setCell ⟨g40, 0, none⟩ (.slice a1 n1 c1)).setCell ⟨g40, 1, none⟩ (.int .i64 (last1 : Int)) = wS at *
            have r0 := hrb.out.cell0
            have r1 := hrb.out.cell1
            have l0 := (lcell hglS.out hon).1
            have l1 := (lcell hglS.out hon).2.1
            have k0 := (lcell hglS.out hon).2.2.1
            have k1 := (lcell hglS.out hon).2.2.2
            have hfin := V.fin hkA bB hkS.out hX.out hbw hSS.out
            replace V := hid V
            replace hNA := hid hNA
            replace hkA := hid hkA
            replace bB := hid bB
            replace hfin := hid hfin
            have hgi9 : ¬ gi = gl := fun e => by have h1 := V.out.llt; omega
            have hOwA := hid ((hOw.out.kp hk2A.out (fun k e1 e2 => by
              have e3 : gi = k := Option.some.inj e1
              rw [← e3] at e2
              have h1 := V.out.sd.net.lt
              have h2 := V.out.sd.net.own.lt
              rcases e2 with e2 | e2 <;> omega)).below bB.out)
            have hgA : gi < wA.heap.size := by have h1 := hk2A.out.size; omega
            have hOwS := hid (hOwA.out.kp hkS.out (fun k e1 e2 => by
              have e3 : gi = k := Option.some.inj e1
              have h1 := (hzz.out k e2).2
              omega))
            have kE := hid (two_gl1 wS gl on (.slice a1 n1 c1) (.int .i64 (last1 : Int)))
            have hOwE := hid (hOwS.out.kp kE.out (fun k e1 e2 => by
              have e3 : gi = k := Option.some.inj e1
              omega))
            have hatE := hid (((hatA.below bB.out).kp2 hkS.out (fun hl0 x hx e => by have h1 := hba.out hl0 x hx; have h2 := (hzz.out _ e).2; have h3 := hkA.out.size; omega)).kp2 kE.out (fun hl0 x hx e => by have h1 := hba.out hl0 x hx; have h2 := V.out.bs.2.2.2.2.2; omega))
            have h9n : ¬ g9 = gl := fun e => hT9 (by simp [T6, e])
            have h9lt := h9.out.lt
            have h9S := hid (((h9.out.kt hT9 hkA.out).kp (Kp.of_below (S := fun _ => False) bB.out) (fun e => e)).kp hkS.out (fun e => by have h2 := (hzz.out _ e).2; have h3 := hkA.out.size; omega))
            have x94 := h9S.out.cells.2.2.1
            have h9n' : ¬ gl = g9 := fun e => h9n e.symm
            go_wp2_with fail
            generalize (wS.setCell ⟨gl, on * 2, none⟩ (.slice a1 n1 c1)).setCell ⟨gl, on * 2 + 1, none⟩ (.int .i64 (last1 : Int)) = wE at *
            refine (kept_any gi cg bc len ba body _ hl.out hlen hcg (own_at hOwE.out) hatE.out).mono ?_
            rintro e w9 ⟨rfl, rfl⟩
            clear x94 r0 r1 l0 l1 k0 k1
            go_wp2_with fail
            refine (over_any gi cg len w.heap.size (body ++ [77, 78, 79]) _ hlen hcg (by rw [List.length_append, hl.out]; rfl) hOwE.out).mono ?_
            rintro e wO ⟨rfl, hkO⟩
            have hV9 := hid (V.out.over hfin.out.1 hkO hgi0 (fun q hq x hx e => by have h1 := hofA.out q hq x hx; omega) (fun x hx e => by have h1 := hOf.a x hx; omega) (fun q hq x hx e => by have h1 := hOf.r q hq x hx; omega))
            have hB9 := hid (hfin.out.2.trans (hkO.below (fun k e => by omega) (Nat.le_trans hbw hfin.out.2.size)))
            go_wp2_with fail
            have hPN : PN base gd gl on wO (b + 1) := ⟨_, _, _, _, _, _, _, _, _, _, _, _, _, _, _, _, hV9.out, by omega, by omega⟩
            exact hN.out _ _ _ _ _ _ _ _ _ _ _ _ _ _ _ _ _ _ _ _ _ _ _ _ _ _ _ _ _ _ _ _ _ _ _ _ _ _ _ _ _ _ _ _ _ _ _ _ _ _ _ _ _ _ _ _ _ _ _ _ _ _ _ _ _ _ _ _ _ _ _ _ _ _ _ _ _ _ _ _ _ _ _ _ _ _ _ _ _ _ _ _ _ _ _ _ _ _ _ _ _ _ _ _ _ _ _ _ _ _ _ _ _ _ _ _ _ _ _ _ _ _ _ _ _ _ _ _ _ _ _ _ _ _ _ _ _ _ _ _ _ _ _ _ _ _ _ _ _ _ _ _ _ _ _ _ _ _ _ _ _ _ _ _ _ _ _ _ _ _ _ _ _ _ _ _ hPN hB9.out
        · skip
          cases hb13 : bb 13
          · skip
            have hlag : lagOf 18 15 [12, 13] bb = #[true, true, true, true, true, true, true, true, true, true, true, true, true, false, true, false, false, false] := by rw [show lagOf 18 15 [12, 13] bb = #[true, true, true, true, true, true, true, true, true, true, true, true, bb 12, bb 13, true, false, false, false] from rfl, hb12, hb13]
            obtain q105 := (hval 12 _ 105 (fun _ => hb12) rfl rfl).out rfl
            have h105 := (congrFun hf 105).trans q105
            change wpAny Try.prog .any _ _ (18 - (lagOf 18 15 [12, 13] bb).toList.count true) (lagOf 18 15 [12, 13] bb) _ _
            rw [hlag]
            clear hlag hdf hsz hkp hval hfa hf
            simp only [fillAll, List.take, List.set_cons_zero, List.set_cons_succ, h93, h104, h15, h105]
            clear h93 h104 h15 h105 q93 q104 q15 q105 hb12 hb13
            have hz40' : wB.heap[g40]? = some (.cells #[.slice none 0 0, .int .i64 0] 40 (0, 0)) := hz40
            have y0 : wB.cell? ⟨g40, 0, none⟩ = some (.slice none 0 0) := by simp [World.cell?, hz40']
            have y1 : wB.cell? ⟨g40, 1, none⟩ = some (.int .i64 0) := by simp [World.cell?, hz40']
            have u0 : wB.frozen? ⟨g40, 0, none⟩ = false := by simp [World.frozen?, hz40']
            have u1 : wB.frozen? ⟨g40, 1, none⟩ = false := by simp [World.frozen?, hz40']
            have hzz : ∀ k, k = g40 → ZB wB k ∧ wA.heap.size ≤ k := fun k e => by subst e; exact ⟨.inl hz40', hg40⟩
            have hkS := two_cells wB g40 (.slice a1 n1 c1) (.int .i64 (last1 : Int))
            have hSS := hid (hS.news hkS hzz (fun q hq x hx => hNA.bodies.lt q hq x hx) hNA.lt hNA.own.lt)
            have hrb := two_r hz40' (.slice a1 n1 c1) (.int .i64 (last1 : Int))
            have hglB : ¬ gl = g40 := fun e => by have h1 := V.llt; have h3 := hkA.size; omega
            have hglS := hkS.block gl (by have h1 := V.llt; have h3 := hkA.size; have h4 := bB.size; omega) hglB
            rw [bB.block gl (by have h1 := V.llt; have h3 := hkA.size; omega), V.gla hkA] at hglS
            have hX : ∀ k, k = g40 → w.heap.size ≤ k := fun k e => Nat.le_trans hkA.size (hzz k e).2
            have hgg : gl < wB.heap.size ∧ g40 < wB.heap.size := ⟨by have h1 := V.llt; have h3 := hkA.size; have h4 := bB.size; omega, hl40⟩
            replace hS := hid hS
            replace hz40 := hid hz40
            replace hz40' := hid hz40'
            replace hzz := hid hzz
            replace hkS := hid hkS
            replace hrb := hid hrb
            replace hglS := hid hglS
            replace hX := hid hX
            replace hglB := hid hglB
            replace V := hid V
            replace hNA := hid hNA
            replace hkA := hid hkA
            replace bB := hid bB
            try clear kR
            change wpAny Try.prog .any _ _ (3 + 1) _ _ _
            refine wpAny_take (i := 13) (v := .int .i64 ec) rfl (by kernel_rfl) (by kernel_rfl) (by kernel_rfl) (fun _ _ _ h => h) (Or.inl ⟨by rfl, ?_⟩) ?_
            · intro w
              go_simp
            change wpAny Try.prog .any _ _ (2 + 1) _ _ _
            refine wpAny_ready (rs := [15]) (by kernel_rfl) (by simp) ?_
            refine AllReady.cons rfl (fun K hK => ?_) AllReady.nil
            go_simp
            refine hK _ _ ?_
            clear hK K
            change wpAny Try.prog .any _ _ (1 + 1) _ _ _
            refine wpAny_ready (rs := [16]) (by kernel_rfl) (by simp) ?_
            refine AllReady.cons rfl (fun K hK => ?_) AllReady.nil
            go_simp
            refine hK _ _ ?_
            clear hK K
            change wpAny Try.prog .any _ _ (0 + 1) _ _ _
            refine wpAny_ready (rs := [17]) (by kernel_rfl) (by simp) ?_
            refine AllReady.cons rfl (fun K hK => ?_) AllReady.nil
            go_simp
            refine hK _ _ ?_
            clear hK K
            refine wpAny_done (by kernel_rfl) ?_ _
            replace V := V.out
            replace hNA := hNA.out
            replace hkA := hkA.out
            replace bB := bB.out
            clear y0 y1 u0 u1
            generalize (wB.setCell ⟨g40, 0, none⟩ (.slice a1 n1 c1)).setCell ⟨g40, 1, none⟩ (.int .i64 (last1 : Int)) = wS at *
            have r0 := hrb.out.cell0
            have r1 := hrb.out.cell1
            have l0 := (lcell hglS.out hon).1
            have l1 := (lcell hglS.out hon).2.1
            have k0 := (lcell hglS.out hon).2.2.1
            have k1 := (lcell hglS.out hon).2.2.2
            have hfin := V.fin hkA bB hkS.out hX.out hbw hSS.out
            replace V := hid V
            replace hNA := hid hNA
            replace hkA := hid hkA
            replace bB := hid bB
            replace hfin := hid hfin
            have hgi9 : ¬ gi = gl := fun e => by have h1 := V.out.llt; omega
            have hOwA := hid ((hOw.out.kp hk2A.out (fun k e1 e2 => by
              have e3 : gi = k := Option.some.inj e1
              rw [← e3] at e2
              have h1 := V.out.sd.net.lt
              have h2 := V.out.sd.net.own.lt
              rcases e2 with e2 | e2 <;> omega)).below bB.out)
            have hgA : gi < wA.heap.size := by have h1 := hk2A.out.size; omega
            have hOwS := hid (hOwA.out.kp hkS.out (fun k e1 e2 => by
              have e3 : gi = k := Option.some.inj e1
              have h1 := (hzz.out k e2).2
              omega))
            have kE := hid (two_gl1 wS gl on (.slice a1 n1 c1) (.int .i64 (last1 : Int)))
            have hOwE := hid (hOwS.out.kp kE.out (fun k e1 e2 => by
              have e3 : gi = k := Option.some.inj e1
              omega))
            have hatE := hid (((hatA.below bB.out).kp2 hkS.out (fun hl0 x hx e => by have h1 := hba.out hl0 x hx; have h2 := (hzz.out _ e).2; have h3 := hkA.out.size; omega)).kp2 kE.out (fun hl0 x hx e => by have h1 := hba.out hl0 x hx; have h2 := V.out.bs.2.2.2.2.2; omega))
            have h9n : ¬ g9 = gl := fun e => hT9 (by simp [T6, e])
            have h9lt := h9.out.lt
            have h9S := hid (((h9.out.kt hT9 hkA.out).kp (Kp.of_below (S := fun _ => False) bB.out) (fun e => e)).kp hkS.out (fun e => by have h2 := (hzz.out _ e).2; have h3 := hkA.out.size; omega))
            have x94 := h9S.out.cells.2.2.1
            have h9n' : ¬ gl = g9 := fun e => h9n e.symm
            go_wp2_with fail
            generalize (wS.setCell ⟨gl, on * 2, none⟩ (.slice a1 n1 c1)).setCell ⟨gl, on * 2 + 1, none⟩ (.int .i64 (last1 : Int)) = wE at *
            refine (kept_any gi cg bc len ba body _ hl.out hlen hcg (own_at hOwE.out) hatE.out).mono ?_
            rintro e w9 ⟨rfl, rfl⟩
            clear x94 r0 r1 l0 l1 k0 k1
            go_wp2_with fail
            refine (over_any gi cg len w.heap.size (body ++ [77, 78, 79]) _ hlen hcg (by rw [List.length_append, hl.out]; rfl) hOwE.out).mono ?_
            rintro e wO ⟨rfl, hkO⟩
            have hV9 := hid (V.out.over hfin.out.1 hkO hgi0 (fun q hq x hx e => by have h1 := hofA.out q hq x hx; omega) (fun x hx e => by have h1 := hOf.a x hx; omega) (fun q hq x hx e => by have h1 := hOf.r q hq x hx; omega))
            have hB9 := hid (hfin.out.2.trans (hkO.below (fun k e => by omega) (Nat.le_trans hbw hfin.out.2.size)))
            go_wp2_with fail
            have hPN : PN base gd gl on wO (b + 1) := ⟨_, _, _, _, _, _, _, _, _, _, _, _, _, _, _, _, hV9.out, by omega, by omega⟩
            exact hN.out _ _ _ _ _ _ _ _ _ _ _ _ _ _ _ _ _ _ _ _ _ _ _ _ _ _ _ _ _ _ _ _ _ _ _ _ _ _ _ _ _ _ _ _ _ _ _ _ _ _ _ _ _ _ _ _ _ _ _ _ _ _ _ _ _ _ _ _ _ _ _ _ _ _ _ _ _ _ _ _ _ _ _ _ _ _ _ _ _ _ _ _ _ _ _ _ _ _ _ _ _ _ _ _ _ _ _ _ _ _ _ _ _ _ _ _ _ _ _ _ _ _ _ _ _ _ _ _ _ _ _ _ _ _ _ _ _ _ _ _ _ _ _ _ _ _ _ _ _ _ _ _ _ _ _ _ _ _ _ _ _ _ _ _ _ _ _ _ _ _ _ _ _ _ _ _ hPN hB9.out
          · skip
            have hlag : lagOf 18 15 [12, 13] bb = #[true, true, true, true, true, true, true, true, true, true, true, true, true, true, true, false, false, false] := by rw [show lagOf 18 15 [12, 13] bb = #[true, true, true, true, true, true, true, true, true, true, true, true, bb 12, bb 13, true, false, false, false] from rfl, hb12, hb13]
            obtain q105 := (hval 12 _ 105 (fun _ => hb12) rfl rfl).out rfl
            have h105 := (congrFun hf 105).trans q105
            obtain q106 := (hval 13 _ 106 (fun _ => hb13) rfl rfl).out rfl
            have h106 := (congrFun hf 106).trans q106
            change wpAny Try.prog .any _ _ (18 - (lagOf 18 15 [12, 13] bb).toList.count true) (lagOf 18 15 [12, 13] bb) _ _
            rw [hlag]
            clear hlag hdf hsz hkp hval hfa hf
            simp only [fillAll, List.take, List.set_cons_zero, List.set_cons_succ, h93, h104, h15, h105, h106]
            clear h93 h104 h15 h105 h106 q93 q104 q15 q105 q106 hb12 hb13
            have hz40' : wB.heap[g40]? = some (.cells #[.slice none 0 0, .int .i64 0] 40 (0, 0)) := hz40
            have y0 : wB.cell? ⟨g40, 0, none⟩ = some (.slice none 0 0) := by simp [World.cell?, hz40']
            have y1 : wB.cell? ⟨g40, 1, none⟩ = some (.int .i64 0) := by simp [World.cell?, hz40']
            have u0 : wB.frozen? ⟨g40, 0, none⟩ = false := by simp [World.frozen?, hz40']
            have u1 : wB.frozen? ⟨g40, 1, none⟩ = false := by simp [World.frozen?, hz40']
            have hzz : ∀ k, k = g40 → ZB wB k ∧ wA.heap.size ≤ k := fun k e => by subst e; exact ⟨.inl hz40', hg40⟩
            have hkS := two_cells wB g40 (.slice a1 n1 c1) (.int .i64 (last1 : Int))
            have hSS := hid (hS.news hkS hzz (fun q hq x hx => hNA.bodies.lt q hq x hx) hNA.lt hNA.own.lt)
            have hrb := two_r hz40' (.slice a1 n1 c1) (.int .i64 (last1 : Int))
            have hglB : ¬ gl = g40 := fun e => by have h1 := V.llt; have h3 := hkA.size; omega
            have hglS := hkS.block gl (by have h1 := V.llt; have h3 := hkA.size; have h4 := bB.size; omega) hglB
            rw [bB.block gl (by have h1 := V.llt; have h3 := hkA.size; omega), V.gla hkA] at hglS
            have hX : ∀ k, k = g40 → w.heap.size ≤ k := fun k e => Nat.le_trans hkA.size (hzz k e).2
            have hgg : gl < wB.heap.size ∧ g40 < wB.heap.size := ⟨by have h1 := V.llt; have h3 := hkA.size; have h4 := bB.size; omega, hl40⟩
            replace hS := hid hS
            replace hz40 := hid hz40
            replace hz40' := hid hz40'
            replace hzz := hid hzz
            replace hkS := hid hkS
            replace hrb := hid hrb
            replace hglS := hid hglS
            replace hX := hid hX
            replace hglB := hid hglB
            replace V := hid V
            replace hNA := hid hNA
            replace hkA := hid hkA
            replace bB := hid bB
            try clear kR
            change wpAny Try.prog .any _ _ (2 + 1) _ _ _
            refine wpAny_ready (rs := [15]) (by kernel_rfl) (by simp) ?_
            refine AllReady.cons rfl (fun K hK => ?_) AllReady.nil
            go_simp
            refine hK _ _ ?_
            clear hK K
            change wpAny Try.prog .any _ _ (1 + 1) _ _ _
            refine wpAny_ready (rs := [16]) (by kernel_rfl) (by simp) ?_
            refine AllReady.cons rfl (fun K hK => ?_) AllReady.nil
            go_simp
            refine hK _ _ ?_
            clear hK K
            change wpAny Try.prog .any _ _ (0 + 1) _ _ _
            refine wpAny_ready (rs := [17]) (by kernel_rfl) (by simp) ?_
            refine AllReady.cons rfl (fun K hK => ?_) AllReady.nil
            go_simp
            refine hK _ _ ?_
            clear hK K
            refine wpAny_done (by kernel_rfl) ?_ _
            replace V := V.out
            replace hNA := hNA.out
            replace hkA := hkA.out
            replace bB := bB.out
            clear y0 y1 u0 u1
            generalize (wB.setCell ⟨g40, 0, none⟩ (.slice a1 n1 c1)).setCell ⟨g40, 1, none⟩ (.int .i64 (last1 : Int)) = wS at *
            have r0 := hrb.out.cell0
            have r1 := hrb.out.cell1
            have l0 := (lcell hglS.out hon).1
            have l1 := (lcell hglS.out hon).2.1
            have k0 := (lcell hglS.out hon).2.2.1
            have k1 := (lcell hglS.out hon).2.2.2
            have hfin := V.fin hkA bB hkS.out hX.out hbw hSS.out
            replace V := hid V
            replace hNA := hid hNA
            replace hkA := hid hkA
            replace bB := hid bB
            replace hfin := hid hfin
            have hgi9 : ¬ gi = gl := fun e => by have h1 := V.out.llt; omega
            have hOwA := hid ((hOw.out.kp hk2A.out (fun k e1 e2 => by
              have e3 : gi = k := Option.some.inj e1
              rw [← e3] at e2
              have h1 := V.out.sd.net.lt
              have h2 := V.out.sd.net.own.lt
              rcases e2 with e2 | e2 <;> omega)).below bB.out)
            have hgA : gi < wA.heap.size := by have h1 := hk2A.out.size; omega
            have hOwS := hid (hOwA.out.kp hkS.out (fun k e1 e2 => by
              have e3 : gi = k := Option.some.inj e1
              have h1 := (hzz.out k e2).2
              omega))
            have kE := hid (two_gl1 wS gl on (.slice a1 n1 c1) (.int .i64 (last1 : Int)))
            have hOwE := hid (hOwS.out.kp kE.out (fun k e1 e2 => by
              have e3 : gi = k := Option.some.inj e1
              omega))
            have hatE := hid (((hatA.below bB.out).kp2 hkS.out (fun hl0 x hx e => by have h1 := hba.out hl0 x hx; have h2 := (hzz.out _ e).2; have h3 := hkA.out.size; omega)).kp2 kE.out (fun hl0 x hx e => by have h1 := hba.out hl0 x hx; have h2 := V.out.bs.2.2.2.2.2; omega))
            have h9n : ¬ g9 = gl := fun e => hT9 (by simp [T6, e])
            have h9lt := h9.out.lt
            have h9S := hid (((h9.out.kt hT9 hkA.out).kp (Kp.of_below (S := fun _ => False) bB.out) (fun e => e)).kp hkS.out (fun e => by have h2 := (hzz.out _ e).2; have h3 := hkA.out.size; omega))
            have x94 := h9S.out.cells.2.2.1
            have h9n' : ¬ gl = g9 := fun e => h9n e.symm
            go_wp2_with fail
            generalize (wS.setCell ⟨gl, on * 2, none⟩ (.slice a1 n1 c1)).setCell ⟨gl, on * 2 + 1, none⟩ (.int .i64 (last1 : Int)) = wE at *
            refine (kept_any gi cg bc len ba body _ hl.out hlen hcg (own_at hOwE.out) hatE.out).mono ?_
            rintro e w9 ⟨rfl, rfl⟩
            clear x94 r0 r1 l0 l1 k0 k1
            go_wp2_with fail
            refine (over_any gi cg len w.heap.size (body ++ [77, 78, 79]) _ hlen hcg (by rw [List.length_append, hl.out]; rfl) hOwE.out).mono ?_
            rintro e wO ⟨rfl, hkO⟩
            have hV9 := hid (V.out.over hfin.out.1 hkO hgi0 (fun q hq x hx e => by have h1 := hofA.out q hq x hx; omega) (fun x hx e => by have h1 := hOf.a x hx; omega) (fun q hq x hx e => by have h1 := hOf.r q hq x hx; omega))
            have hB9 := hid (hfin.out.2.trans (hkO.below (fun k e => by omega) (Nat.le_trans hbw hfin.out.2.size)))
            go_wp2_with fail
            have hPN : PN base gd gl on wO (b + 1) := ⟨_, _, _, _, _, _, _, _, _, _, _, _, _, _, _, _, hV9.out, by omega, by omega⟩
            exact hN.out _ _ _ _ _ _ _ _ _ _ _ _ _ _ _ _ _ _ _ _ _ _ _ _ _ _ _ _ _ _ _ _ _ _ _ _ _ _ _ _ _ _ _ _ _ _ _ _ _ _ _ _ _ _ _ _ _ _ _ _ _ _ _ _ _ _ _ _ _ _ _ _ _ _ _ _ _ _ _ _ _ _ _ _ _ _ _ _ _ _ _ _ _ _ _ _ _ _ _ _ _ _ _ _ _ _ _ _ _ _ _ _ _ _ _ _ _ _ _ _ _ _ _ _ _ _ _ _ _ _ _ _ _ _ _ _ _ _ _ _ _ _ _ _ _ _ _ _ _ _ _ _ _ _ _ _ _ _ _ _ _ _ _ _ _ _ _ _ _ _ _ _ _ _ _ _ hPN hB9.out
    · skip
      have hlag : lagOf 14 12 [11] bb = #[true, true, true, true, true, true, true, true, true, true, true, true, false, false] := by rw [show lagOf 14 12 [11] bb = #[true, true, true, true, true, true, true, true, true, true, true, bb 11, false, false] from rfl, hb11]
      have q92 : ac.tmps.getD 92 undef = (.int .i64 ec : Value) := (hval 11 _ 92 (fun _ => hb11) rfl rfl).val rfl
      have h92 := (congrFun hf 92).trans q92
      change wpAny Try.prog .any _ _ (14 - (lagOf 14 12 [11] bb).toList.count true) (lagOf 14 12 [11] bb) _ _
      rw [hlag]
      clear hlag hdf hsz hkp hval hfa hf
      simp only [fillAll, List.take, List.set_cons_zero, List.set_cons_succ, h90, h81, h91, h92]
      clear h90 h81 h91 h92 q90 q81 q91 q92 hb11
      obtain ⟨ws, L1, hws, hSO, hNA, hofA, hk2A, hsA⟩ := hAf
      have hkA := (Kp.of_below (S := Turn p m) B2).trans hk2A
      have hs1 : w.heap.size ≤ ws.heap.size := Nat.le_trans B2.size hws.size
      have hs3 : w2.heap.size ≤ ws.heap.size := hws.size
      have hatA := hat.out.kp2 hkA (fun hl0 x hx e => by have h1 := hba.out hl0 x hx; have h2 := V.bs; rcases e with e | e <;> omega)
      clear kS
      replace V := hid V
      replace hNA := hid hNA
      replace hkA := hid hkA
      replace hk2A := hid hk2A
      replace hatA := hid hatA
      replace hSO := hid hSO
      replace hofA := hid hofA
      replace hws := hid hws
      replace B2 := hid B2
      change wpAny Try.prog .any _ _ (1 + 1) _ _ _
      refine wpAny_ready (rs := [12]) (by kernel_rfl) (by simp) ?_
      refine AllReady.cons rfl (fun K hK => ?_) AllReady.nil
      go_simp
      refine hK _ _ ?_
      clear hK K
      change wpAny Try.prog .any _ _ (0 + 1) _ _ _
      refine wpAny_ready (rs := [13]) (by kernel_rfl) (by simp) ?_
      refine AllReady.cons rfl (fun K hK => ?_) AllReady.nil
      go_simp
      refine hK _ _ ?_
      clear hK K
      refine wpAny_done (by kernel_rfl) ?_ _
      go_wp2_with fail
      replace V := V.out
      replace hNA := hNA.out
      replace hkA := hkA.out
      replace hatA := hatA.out
      replace hSO := hSO.out
      replace kR := kR.out
      refine wp_region_lag 15 [12, 13] (Bf := (fun w' => Below wA.heap.size wA w')) (Af := (fun w' => Below wA.heap.size wA w')) (C := 9) (Pr := PrV (pv18 gl on n c last g9 len bc a ba fr to) [9, 10, 11, 12, 13, 14] (R22 9 (T6 p m p' m' gd gl) (Off w.heap.size wA.heap.size) wA.heap.size p m L1 last1 num ec)) (by kernel_rfl) (by kernel_rfl) (by decide) (by decide) (by decide) (drew_below _) ?_ (by kernel_rfl) ?_
      · refine ⟨?_, ?_, ?_, ?_, ?_, ?_, ?_, ?_, ?_, ?_, ?_, ?_, ?_, ?_, ?_, trivial⟩
        · exact fun ac w hC hBA hd hk K hK => yes (want_n rfl) (wp_mv _ rfl _ (get_keep (hk 10 (no_dst (by kernel_rfl))) rfl) (hK _ w (PrV.is rfl rfl) (fun e => absurd e (by decide)) (fun _ => ⟨id, id⟩) (fun _ _ _ h => h)))
        · intro ac w hC hBA hd hk K hK
          have e6 : ac.tmps[6]?.getD undef = (.pointer (some ⟨gl, 0, none⟩) : Value) := slot (get_keep (hk 6 (no_dst (by kernel_rfl))) rfl)
          have e94 : ac.tmps[94]?.getD undef = (.int .i64 (on : Int) : Value) := slot ((hd 0 _ 94 rfl rfl rfl).val rfl)
          refine yes (want_n rfl) ?_
          have hv := hid (hK (.pointer (some ⟨gl, on * 2, none⟩)) w (PrV.is rfl rfl) (fun e => absurd e (by decide)) (fun _ => ⟨id, id⟩) (fun _ _ _ h => h))
          clear hK hC hBA hd hk
          go_simp
          refine kq hv.out ?_
          rfl
        · intro ac w hC hBA hd hk K hK
          have e95 : ac.tmps[95]?.getD undef = (.pointer (some ⟨gl, on * 2, none⟩) : Value) := slot ((hd 1 _ 95 rfl rfl rfl).val rfl)
          have x := V.lk (hkA.then (hBA.elim id id))
          have x0 := x.1
          have x1 := x.2
          clear x
          refine yes (want_n rfl) ?_
          have hv := hid (hK (.agg #[.slice a n c, .int .i64 (last : Int)]) w (PrV.is rfl rfl) (fun e => absurd e (by decide)) (fun _ => ⟨id, id⟩) (fun _ _ _ h => h))
          clear hK hC hBA hd hk
          go_simp
          refine kq hv.out ?_
          rfl
        · intro ac w hC hBA hd hk K hK
          have e9 : ac.tmps[9]?.getD undef = (.pointer (some ⟨g9, 0, none⟩) : Value) := slot (get_keep (hk 9 (no_dst (by kernel_rfl))) rfl)
          refine yes (want_n rfl) ?_
          have hv := hid (hK (.pointer (some ⟨g9, 2, none⟩)) w (PrV.is rfl rfl) (fun e => absurd e (by decide)) (fun _ => ⟨id, id⟩) (fun _ _ _ h => h))
          clear hK hC hBA hd hk
          go_simp
          refine kq hv.out ?_
          rfl
        · intro ac w hC hBA hd hk K hK
          have e97 : ac.tmps[97]?.getD undef = (.pointer (some ⟨g9, 2, none⟩) : Value) := slot ((hd 3 _ 97 rfl rfl rfl).val rfl)
          have x0 := (h9.out.kt hT9 (hkA.then (hBA.elim id id))).cells.1
          refine yes (want_n rfl) ?_
          have hv := hid (hK (.int .i64 fr) w (PrV.is rfl rfl) (fun e => absurd e (by decide)) (fun _ => ⟨id, id⟩) (fun _ _ _ h => h))
          clear hK hC hBA hd hk
          go_simp
          refine kq hv.out ?_
          rfl
        · intro ac w hC hBA hd hk K hK
          have e9 : ac.tmps[9]?.getD undef = (.pointer (some ⟨g9, 0, none⟩) : Value) := slot (get_keep (hk 9 (no_dst (by kernel_rfl))) rfl)
          refine yes (want_n rfl) ?_
          have hv := hid (hK (.pointer (some ⟨g9, 3, none⟩)) w (PrV.is rfl rfl) (fun e => absurd e (by decide)) (fun _ => ⟨id, id⟩) (fun _ _ _ h => h))
          clear hK hC hBA hd hk
          go_simp
          refine kq hv.out ?_
          rfl
        · intro ac w hC hBA hd hk K hK
          have e99 : ac.tmps[99]?.getD undef = (.pointer (some ⟨g9, 3, none⟩) : Value) := slot ((hd 5 _ 99 rfl rfl rfl).val rfl)
          have x0 := (h9.out.kt hT9 (hkA.then (hBA.elim id id))).cells.2.1
          refine yes (want_n rfl) ?_
          have hv := hid (hK (.int .i64 to) w (PrV.is rfl rfl) (fun e => absurd e (by decide)) (fun _ => ⟨id, id⟩) (fun _ _ _ h => h))
          clear hK hC hBA hd hk
          go_simp
          refine kq hv.out ?_
          rfl
        · intro ac w hC hBA hd hk K hK
          have e9 : ac.tmps[9]?.getD undef = (.pointer (some ⟨g9, 0, none⟩) : Value) := slot (get_keep (hk 9 (no_dst (by kernel_rfl))) rfl)
          refine yes (want_n rfl) ?_
          have hv := hid (hK (.pointer (some ⟨g9, 4, none⟩)) w (PrV.is rfl rfl) (fun e => absurd e (by decide)) (fun _ => ⟨id, id⟩) (fun _ _ _ h => h))
          clear hK hC hBA hd hk
          go_simp
          refine kq hv.out ?_
          rfl
        · intro ac w hC hBA hd hk K hK
          have e101 : ac.tmps[101]?.getD undef = (.pointer (some ⟨g9, 4, none⟩) : Value) := slot ((hd 7 _ 101 rfl rfl rfl).val rfl)
          have x0 := (h9.out.kt hT9 (hkA.then (hBA.elim id id))).cells.2.2.1
          refine yes (want_n rfl) ?_
          have hv := hid (hK (.slice ba len bc) w (PrV.is rfl rfl) (fun e => absurd e (by decide)) (fun _ => ⟨id, id⟩) (fun _ _ _ h => h))
          clear hK hC hBA hd hk
          go_simp
          refine kq hv.out ?_
          rfl
        · intro ac w hC hBA hd hk K hK
          refine yes (want_n rfl) ?_
          refine wp_callv 16 _ _ rfl _ Try.func16 rfl rfl _ (args4 ((hd 2 _ 96 rfl rfl rfl).val rfl) ((hd 4 _ 98 rfl rfl rfl).val rfl) ((hd 6 _ 100 rfl rfl rfl).val rfl) ((hd 8 _ 102 rfl rfl rfl).val rfl)) (kR ws w L1 hs1 (Nat.le_trans hsA (Below.size (hC rfl))) hSO (hNA.below (hC rfl)) (hkA.then (hC rfl)) (hatA.below (hC rfl))) ?_
          rintro e w' ⟨a1, n1, c1, R1, rfl, hS, hOf, hbw⟩
          exact ⟨_, rfl, hK _ w' (PrV.by rfl ⟨a1, n1, c1, R1, rfl, hS, hOf.mono (Below.size (hC rfl))⟩) (fun _ => bnext (hC rfl) hbw) (fun h => absurd rfl h) (fun j u hj h => PrV.mono2 (R22.below hbw) h)⟩
        · intro ac w hC hBA hd hk K hK
          obtain ⟨a1, n1, c1, R1, e1, hS, hOf⟩ := ((hd 9 _ 103 rfl rfl rfl).out rfl)
          exact yes (want_n rfl) (wp_mv _ rfl _ e1 (hK _ w (PrV.by rfl ⟨a1, n1, c1, R1, rfl, hS, hOf⟩) (fun e => absurd e (by decide)) (fun _ => ⟨id, id⟩) (fun _ _ _ h => h)))
        · intro ac w hC hBA hd hk K hK
          obtain ⟨a1, n1, c1, R1, e1, hS, hOf⟩ := ((hd 10 _ 93 rfl rfl rfl).out rfl)
          have e2 := slot e1
          refine yes (want_n rfl) ?_
          have hv := hid (hK (.agg #[.slice a1 n1 c1, .int .i64 (last1 : Int)]) w (PrV.by rfl ⟨a1, n1, c1, R1, rfl, hS, hOf⟩) (fun e => absurd e (by decide)) (fun _ => ⟨id, id⟩) (fun _ _ _ h => h))
          clear hK hC hBA hd hk hS
          go_simp
          exact hv.out
        · intro ac w hC hBA hd hk K hK
          obtain ⟨a1, n1, c1, R1, e1, hS, hOf⟩ := ((hd 10 _ 93 rfl rfl rfl).out rfl)
          have e2 := slot e1
          refine yes (want_n rfl) ?_
          have hv := hid (hK (.int .i64 num) w (PrV.by rfl rfl) (fun e => absurd e (by decide)) (fun _ => ⟨id, id⟩) (fun _ _ _ h => h))
          clear hK hC hBA hd hk hS
          go_simp
          exact hv.out
        · intro ac w hC hBA hd hk K hK
          obtain ⟨a1, n1, c1, R1, e1, hS, hOf⟩ := ((hd 10 _ 93 rfl rfl rfl).out rfl)
          have e2 := slot e1
          refine yes (want_n rfl) ?_
          have hv := hid (hK (.int .i64 ec) w (PrV.by rfl rfl) (fun e => absurd e (by decide)) (fun _ => ⟨id, id⟩) (fun _ _ _ h => h))
          clear hK hC hBA hd hk hS
          go_simp
          exact hv.out
        · intro ac w hC hBA hd hk K hK
          have hbl := below_lit w (.cells z40 40)
          have hsz := (hBA.elim id id : Below wA.heap.size wA w).size
          have hv := hid (hK (.pointer (some ⟨w.heap.size, 0, none⟩)) (w.alloc (.cells z40 40)) (PrV.by rfl ⟨w.heap.size, rfl, hsz, by rw [World.size_alloc]; omega, heap_alloc_new w _⟩) (fun e => absurd e (by decide)) (fun _ => ⟨fun h => bnext h hbl, fun h => bnext h hbl⟩) (fun j u hj h => PrV.mono2 (R22.below hbl) h))
          refine yes (want_n rfl) ?_
          clear hK hC hBA hd hk
          go_simp
          exact hv.out
      · intro bb ac wB hdf hsz hkp hval bB
        obtain ⟨_, _, _, _, q93, _, _⟩ := (hval 10 _ 93 (fun h => absurd h (by decide)) rfl rfl).out rfl
        obtain ⟨a1, n1, c1, R1, q104, hS, hOf⟩ := (hval 11 _ 104 (fun h => absurd h (by decide)) rfl rfl).out rfl
        obtain ⟨g40, q15, hg40, hl40, hz40⟩ := (hval 14 _ 15 (fun h => absurd h (by decide)) rfl rfl).out rfl
        obtain ⟨f, hf⟩ : ∃ f, f = fun d => ac.tmps.getD d undef := ⟨_, rfl⟩
        have h93 := (congrFun hf 93).trans q93
        have h104 := (congrFun hf 104).trans q104
        have h15 := (congrFun hf 15).trans q15
        have hfa := act_filled hdf hsz hkp
        rw [← hf] at hfa
        rw [hfa]
        cases hb12 : bb 12
        · skip
          cases hb13 : bb 13
          · skip
            have hlag : lagOf 18 15 [12, 13] bb = #[true, true, true, true, true, true, true, true, true, true, true, true, false, false, true, false, false, false] := by rw [show lagOf 18 15 [12, 13] bb = #[true, true, true, true, true, true, true, true, true, true, true, true, bb 12, bb 13, true, false, false, false] from rfl, hb12, hb13]
            change wpAny Try.prog .any _ _ (18 - (lagOf 18 15 [12, 13] bb).toList.count true) (lagOf 18 15 [12, 13] bb) _ _
            rw [hlag]
            clear hlag hdf hsz hkp hval hfa hf
            simp only [fillAll, List.take, List.set_cons_zero, List.set_cons_succ, h93, h104, h15]
            clear h93 h104 h15 q93 q104 q15 hb12 hb13
            have hz40' : wB.heap[g40]? = some (.cells #[.slice none 0 0, .int .i64 0] 40 (0, 0)) := hz40
            have y0 : wB.cell? ⟨g40, 0, none⟩ = some (.slice none 0 0) := by simp [World.cell?, hz40']
            have y1 : wB.cell? ⟨g40, 1, none⟩ = some (.int .i64 0) := by simp [World.cell?, hz40']
            have u0 : wB.frozen? ⟨g40, 0, none⟩ = false := by simp [World.frozen?, hz40']
            have u1 : wB.frozen? ⟨g40, 1, none⟩ = false := by simp [World.frozen?, hz40']
            have hzz : ∀ k, k = g40 → ZB wB k ∧ wA.heap.size ≤ k := fun k e => by subst e; exact ⟨.inl hz40', hg40⟩
            have hkS := two_cells wB g40 (.slice a1 n1 c1) (.int .i64 (last1 : Int))
            have hSS := hid (hS.news hkS hzz (fun q hq x hx => hNA.bodies.lt q hq x hx) hNA.lt hNA.own.lt)
            have hrb := two_r hz40' (.slice a1 n1 c1) (.int .i64 (last1 : Int))
            have hglB : ¬ gl = g40 := fun e => by have h1 := V.llt; have h3 := hkA.size; omega
            have hglS := hkS.block gl (by have h1 := V.llt; have h3 := hkA.size; have h4 := bB.size; omega) hglB
            rw [bB.block gl (by have h1 := V.llt; have h3 := hkA.size; omega), V.gla hkA] at hglS
            have hX : ∀ k, k = g40 → w.heap.size ≤ k := fun k e => Nat.le_trans hkA.size (hzz k e).2
            have hgg : gl < wB.heap.size ∧ g40 < wB.heap.size := ⟨by have h1 := V.llt; have h3 := hkA.size; have h4 := bB.size; omega, hl40⟩
            replace hS := hid hS
            replace hz40 := hid hz40
            replace hz40' := hid hz40'
            replace hzz := hid hzz
            replace hkS := hid hkS
            replace hrb := hid hrb
            replace hglS := hid hglS
            replace hX := hid hX
            replace hglB := hid hglB
            replace V := hid V
            replace hNA := hid hNA
            replace hkA := hid hkA
            replace bB := hid bB
            try clear kR
            change wpAny Try.prog .any _ _ (4 + 1) _ _ _
            refine wpAny_take (i := 12) (v := .int .i64 num) rfl (by kernel_rfl) (by kernel_rfl) (by kernel_rfl) (fun _ _ _ h => h) (Or.inl ⟨by rfl, ?_⟩) ?_
            · intro w
              go_simp
            change wpAny Try.prog .any _ _ (3 + 1) _ _ _
            refine wpAny_take (i := 13) (v := .int .i64 ec) rfl (by kernel_rfl) (by kernel_rfl) (by kernel_rfl) (fun _ _ _ h => h) (Or.inl ⟨by rfl, ?_⟩) ?_
            · intro w
              go_simp
            change wpAny Try.prog .any _ _ (2 + 1) _ _ _
            refine wpAny_ready (rs := [15]) (by kernel_rfl) (by simp) ?_
            refine AllReady.cons rfl (fun K hK => ?_) AllReady.nil
            go_simp
            refine hK _ _ ?_
            clear hK K
            change wpAny Try.prog .any _ _ (1 + 1) _ _ _
            refine wpAny_ready (rs := [16]) (by kernel_rfl) (by simp) ?_
            refine AllReady.cons rfl (fun K hK => ?_) AllReady.nil
            go_simp
            refine hK _ _ ?_
            clear hK K
            change wpAny Try.prog .any _ _ (0 + 1) _ _ _
            refine wpAny_ready (rs := [17]) (by kernel_rfl) (by simp) ?_
            refine AllReady.cons rfl (fun K hK => ?_) AllReady.nil
            go_simp
            refine hK _ _ ?_
            clear hK K
            refine wpAny_done (by kernel_rfl) ?_ _
            replace V := V.out
            replace hNA := hNA.out
            replace hkA := hkA.out
            replace bB := bB.out
            clear y0 y1 u0 u1
            generalize (wB.setCell ⟨g40, 0, none⟩ (.slice a1 n1 c1)).setCell ⟨g40, 1, none⟩ (.int .i64 (last1 : Int)) = wS at *
            have r0 := hrb.out.cell0
            have r1 := hrb.out.cell1
            have l0 := (lcell hglS.out hon).1
            have l1 := (lcell hglS.out hon).2.1
            have k0 := (lcell hglS.out hon).2.2.1
            have k1 := (lcell hglS.out hon).2.2.2
            have hfin := V.fin hkA bB hkS.out hX.out hbw hSS.out
            replace V := hid V
            replace hNA := hid hNA
            replace hkA := hid hkA
            replace bB := hid bB
            replace hfin := hid hfin
            have hgi9 : ¬ gi = gl := fun e => by have h1 := V.out.llt; omega
            have hOwA := hid ((hOw.out.kp hk2A.out (fun k e1 e2 => by
              have e3 : gi = k := Option.some.inj e1
              rw [← e3] at e2
              have h1 := V.out.sd.net.lt
              have h2 := V.out.sd.net.own.lt
              rcases e2 with e2 | e2 <;> omega)).below bB.out)
            have hgA : gi < wA.heap.size := by have h1 := hk2A.out.size; omega
            have hOwS := hid (hOwA.out.kp hkS.out (fun k e1 e2 => by
              have e3 : gi = k := Option.some.inj e1
              have h1 := (hzz.out k e2).2
              omega))
            have kE := hid (two_gl1 wS gl on (.slice a1 n1 c1) (.int .i64 (last1 : Int)))
            have hOwE := hid (hOwS.out.kp kE.out (fun k e1 e2 => by
              have e3 : gi = k := Option.some.inj e1
              omega))
            have hatE := hid (((hatA.below bB.out).kp2 hkS.out (fun hl0 x hx e => by have h1 := hba.out hl0 x hx; have h2 := (hzz.out _ e).2; have h3 := hkA.out.size; omega)).kp2 kE.out (fun hl0 x hx e => by have h1 := hba.out hl0 x hx; have h2 := V.out.bs.2.2.2.2.2; omega))
            have h9n : ¬ g9 = gl := fun e => hT9 (by simp [T6, e])
            have h9lt := h9.out.lt
            have h9S := hid (((h9.out.kt hT9 hkA.out).kp (Kp.of_below (S := fun _ => False) bB.out) (fun e => e)).kp hkS.out (fun e => by have h2 := (hzz.out _ e).2; have h3 := hkA.out.size; omega))
            have x94 := h9S.out.cells.2.2.1
            have h9n' : ¬ gl = g9 := fun e => h9n e.symm
            go_wp2_with fail
            generalize (wS.setCell ⟨gl, on * 2, none⟩ (.slice a1 n1 c1)).setCell ⟨gl, on * 2 + 1, none⟩ (.int .i64 (last1 : Int)) = wE at *
            refine (kept_any gi cg bc len ba body _ hl.out hlen hcg (own_at hOwE.out) hatE.out).mono ?_
            rintro e w9 ⟨rfl, rfl⟩
            clear x94 r0 r1 l0 l1 k0 k1
            go_wp2_with fail
            refine (over_any gi cg len w.heap.size (body ++ [77, 78, 79]) _ hlen hcg (by rw [List.length_append, hl.out]; rfl) hOwE.out).mono ?_
            rintro e wO ⟨rfl, hkO⟩
            have hV9 := hid (V.out.over hfin.out.1 hkO hgi0 (fun q hq x hx e => by have h1 := hofA.out q hq x hx; omega) (fun x hx e => by have h1 := hOf.a x hx; omega) (fun q hq x hx e => by have h1 := hOf.r q hq x hx; omega))
            have hB9 := hid (hfin.out.2.trans (hkO.below (fun k e => by omega) (Nat.le_trans hbw hfin.out.2.size)))
            go_wp2_with fail
            have hPN : PN base gd gl on wO (b + 1) := ⟨_, _, _, _, _, _, _, _, _, _, _, _, _, _, _, _, hV9.out, by omega, by omega⟩
            exact hN.out _ _ _ _ _ _ _ _ _ _ _ _ _ _ _ _ _ _ _ _ _ _ _ _ _ _ _ _ _ _ _ _ _ _ _ _ _ _ _ _ _ _ _ _ _ _ _ _ _ _ _ _ _ _ _ _ _ _ _ _ _ _ _ _ _ _ _ _ _ _ _ _ _ _ _ _ _ _ _ _ _ _ _ _ _ _ _ _ _ _ _ _ _ _ _ _ _ _ _ _ _ _ _ _ _ _ _ _ _ _ _ _ _ _ _ _ _ _ _ _ _ _ _ _ _ _ _ _ _ _ _ _ _ _ _ _ _ _ _ _ _ _ _ _ _ _ _ _ _ _ _ _ _ _ _ _ _ _ _ _ _ _ _ _ _ _ _ _ _ _ _ _ _ _ _ _ hPN hB9.out
          · skip
            have hlag : lagOf 18 15 [12, 13] bb = #[true, true, true, true, true, true, true, true, true, true, true, true, false, true, true, false, false, false] := by rw [show lagOf 18 15 [12, 13] bb = #[true, true, true, true, true, true, true, true, true, true, true, true, bb 12, bb 13, true, false, false, false] from rfl, hb12, hb13]
            obtain q106 := (hval 13 _ 106 (fun _ => hb13) rfl rfl).out rfl
            have h106 := (congrFun hf 106).trans q106
            change wpAny Try.prog .any _ _ (18 - (lagOf 18 15 [12, 13] bb).toList.count true) (lagOf 18 15 [12, 13] bb) _ _
            rw [hlag]
            clear hlag hdf hsz hkp hval hfa hf
            simp only [fillAll, List.take, List.set_cons_zero, List.set_cons_succ, h93, h104, h15, h106]
            clear h93 h104 h15 h106 q93 q104 q15 q106 hb12 hb13
            have hz40' : wB.heap[g40]? = some (.cells #[.slice none 0 0, .int .i64 0] 40 (0, 0)) := hz40
            have y0 : wB.cell? ⟨g40, 0, none⟩ = some (.slice none 0 0) := by simp [World.cell?, hz40']
            have y1 : wB.cell? ⟨g40, 1, none⟩ = some (.int .i64 0) := by simp [World.cell?, hz40']
            have u0 : wB.frozen? ⟨g40, 0, none⟩ = false := by simp [World.frozen?, hz40']
            have u1 : wB.frozen? ⟨g40, 1, none⟩ = false := by simp [World.frozen?, hz40']
            have hzz : ∀ k, k = g40 → ZB wB k ∧ wA.heap.size ≤ k := fun k e => by subst e; exact ⟨.inl hz40', hg40⟩
            have hkS := two_cells wB g40 (.slice a1 n1 c1) (.int .i64 (last1 : Int))
            have hSS := hid (hS.news hkS hzz (fun q hq x hx => hNA.bodies.lt q hq x hx) hNA.lt hNA.own.lt)
            have hrb := two_r hz40' (.slice a1 n1 c1) (.int .i64 (last1 : Int))
            have hglB : ¬ gl = g40 := fun e => by have h1 := V.llt; have h3 := hkA.size; omega
            have hglS := hkS.block gl (by have h1 := V.llt; have h3 := hkA.size; have h4 := bB.size; omega) hglB
            rw [bB.block gl (by have h1 := V.llt; have h3 := hkA.size; omega), V.gla hkA] at hglS
            have hX : ∀ k, k = g40 → w.heap.size ≤ k := fun k e => Nat.le_trans hkA.size (hzz k e).2
            have hgg : gl < wB.heap.size ∧ g40 < wB.heap.size := ⟨by have h1 := V.llt; have h3 := hkA.size; have h4 := bB.size; omega, hl40⟩
            replace hS := hid hS
            replace hz40 := hid hz40
            replace hz40' := hid hz40'
            replace hzz := hid hzz
            replace hkS := hid hkS
            replace hrb := hid hrb
            replace hglS := hid hglS
            replace hX := hid hX
            replace hglB := hid hglB
            replace V := hid V
            replace hNA := hid hNA
            replace hkA := hid hkA
            replace bB := hid bB
            try clear kR
            change wpAny Try.prog .any _ _ (3 + 1) _ _ _
            refine wpAny_take (i := 12) (v := .int .i64 num) rfl (by kernel_rfl) (by kernel_rfl) (by kernel_rfl) (fun _ _ _ h => h) (Or.inl ⟨by rfl, ?_⟩) ?_
            · intro w
              go_simp
            change wpAny Try.prog .any _ _ (2 + 1) _ _ _
            refine wpAny_ready (rs := [15]) (by kernel_rfl) (by simp) ?_
            refine AllReady.cons rfl (fun K hK => ?_) AllReady.nil
            go_simp
            refine hK _ _ ?_
            clear hK K
            change wpAny Try.prog .any _ _ (1 + 1) _ _ _
            refine wpAny_ready (rs := [16]) (by kernel_rfl) (by simp) ?_
            refine AllReady.cons rfl (fun K hK => ?_) AllReady.nil
            go_simp
            refine hK _ _ ?_
            clear hK K
            change wpAny Try.prog .any _ _ (0 + 1) _ _ _
            refine wpAny_ready (rs := [17]) (by kernel_rfl) (by simp) ?_
            refine AllReady.cons rfl (fun K hK => ?_) AllReady.nil
            go_simp
            refine hK _ _ ?_
            clear hK K
            refine wpAny_done (by kernel_rfl) ?_ _
            replace V := V.out
            replace hNA := hNA.out
            replace hkA := hkA.out
            replace bB := bB.out
            clear y0 y1 u0 u1
            generalize (wB.setCell ⟨g40, 0, none⟩ (.slice a1 n1 c1)).setCell ⟨g40, 1, none⟩ (.int .i64 (last1 : Int)) = wS at *
            have r0 := hrb.out.cell0
            have r1 := hrb.out.cell1
            have l0 := (lcell hglS.out hon).1
            have l1 := (lcell hglS.out hon).2.1
            have k0 := (lcell hglS.out hon).2.2.1
            have k1 := (lcell hglS.out hon).2.2.2
            have hfin := V.fin hkA bB hkS.out hX.out hbw hSS.out
            replace V := hid V
            replace hNA := hid hNA
            replace hkA := hid hkA
            replace bB := hid bB
            replace hfin := hid hfin
            have hgi9 : ¬ gi = gl := fun e => by have h1 := V.out.llt; omega
            have hOwA := hid ((hOw.out.kp hk2A.out (fun k e1 e2 => by
              have e3 : gi = k := Option.some.inj e1
              rw [← e3] at e2
              have h1 := V.out.sd.net.lt
              have h2 := V.out.sd.net.own.lt
              rcases e2 with e2 | e2 <;> omega)).below bB.out)
            have hgA : gi < wA.heap.size := by have h1 := hk2A.out.size; omega
            have hOwS := hid (hOwA.out.kp hkS.out (fun k e1 e2 => by
              have e3 : gi = k := Option.some.inj e1
              have h1 := (hzz.out k e2).2
              omega))
            have kE := hid (two_gl1 wS gl on (.slice a1 n1 c1) (.int .i64 (last1 : Int)))
            have hOwE := hid (hOwS.out.kp kE.out (fun k e1 e2 => by
              have e3 : gi = k := Option.some.inj e1
              omega))
            have hatE := hid (((hatA.below bB.out).kp2 hkS.out (fun hl0 x hx e => by have h1 := hba.out hl0 x hx; have h2 := (hzz.out _ e).2; have h3 := hkA.out.size; omega)).kp2 kE.out (fun hl0 x hx e => by have h1 := hba.out hl0 x hx; have h2 := V.out.bs.2.2.2.2.2; omega))
            have h9n : ¬ g9 = gl := fun e => hT9 (by simp [T6, e])
            have h9lt := h9.out.lt
            have h9S := hid (((h9.out.kt hT9 hkA.out).kp (Kp.of_below (S := fun _ => False) bB.out) (fun e => e)).kp hkS.out (fun e => by have h2 := (hzz.out _ e).2; have h3 := hkA.out.size; omega))
            have x94 := h9S.out.cells.2.2.1
            have h9n' : ¬ gl = g9 := fun e => h9n e.symm
            go_wp2_with fail
            generalize (wS.setCell ⟨gl, on * 2, none⟩ (.slice a1 n1 c1)).setCell ⟨gl, on * 2 + 1, none⟩ (.int .i64 (last1 : Int)) = wE at *
            refine (kept_any gi cg bc len ba body _ hl.out hlen hcg (own_at hOwE.out) hatE.out).mono ?_
            rintro e w9 ⟨rfl, rfl⟩
            clear x94 r0 r1 l0 l1 k0 k1
            go_wp2_with fail
            refine (over_any gi cg len w.heap.size (body ++ [77, 78, 79]) _ hlen hcg (by rw [List.length_append, hl.out]; rfl) hOwE.out).mono ?_
            rintro e wO ⟨rfl, hkO⟩
            have hV9 := hid (V.out.over hfin.out.1 hkO hgi0 (fun q hq x hx e => by have h1 := hofA.out q hq x hx; omega) (fun x hx e => by have h1 := hOf.a x hx; omega) (fun q hq x hx e => by have h1 := hOf.r q hq x hx; omega))
            have hB9 := hid (hfin.out.2.trans (hkO.below (fun k e => by omega) (Nat.le_trans hbw hfin.out.2.size)))
            go_wp2_with fail
            have hPN : PN base gd gl on wO (b + 1) := ⟨_, _, _, _, _, _, _, _, _, _, _, _, _, _, _, _, hV9.out, by omega, by omega⟩
            exact hN.out _ _ _ _ _ _ _ _ _ _ _ _ _ _ _ _ _ _ _ _ _ _ _ _ _ _ _ _ _ _ _ _ _ _ _ _ _ _ _ _ _ _ _ _ _ _ _ _ _ _ _ _ _ _ _ _ _ _ _ _ _ _ _ _ _ _ _ _ _ _ _ _ _ _ _ _ _ _ _ _ _ _ _ _ _ _ _ _ _ _ _ _ _ _ _ _ _ _ _ _ _ _ _ _ _ _ _ _ _ _ _ _ _ _ _ _ _ _ _ _ _ _ _ _ _ _ _ _ _ _ _ _ _ _ _ _ _ _ _ _ _ _ _ _ _ _ _ _ _ _ _ _ _ _ _ _ _ _ _ _ _ _ _ _ _ _ _ _ _ _ _ _ _ _ _ _ hPN hB9.out
        · skip
          cases hb13 : bb 13
          · skip
            have hlag : lagOf 18 15 [12, 13] bb = #[true, true, true, true, true, true, true, true, true, true, true, true, true, false, true, false, false, false] := by rw [show lagOf 18 15 [12, 13] bb = #[true, true, true, true, true, true, true, true, true, true, true, true, bb 12, bb 13, true, false, false, false] from rfl, hb12, hb13]
            obtain q105 := (hval 12 _ 105 (fun _ => hb12) rfl rfl).out rfl
            have h105 := (congrFun hf 105).trans q105
            change wpAny Try.prog .any _ _ (18 - (lagOf 18 15 [12, 13] bb).toList.count true) (lagOf 18 15 [12, 13] bb) _ _
            rw [hlag]
            clear hlag hdf hsz hkp hval hfa hf
            simp only [fillAll, List.take, List.set_cons_zero, List.set_cons_succ, h93, h104, h15, h105]
            clear h93 h104 h15 h105 q93 q104 q15 q105 hb12 hb13
            have hz40' : wB.heap[g40]? = some (.cells #[.slice none 0 0, .int .i64 0] 40 (0, 0)) := hz40
            have y0 : wB.cell? ⟨g40, 0, none⟩ = some (.slice none 0 0) := by simp [World.cell?, hz40']
            have y1 : wB.cell? ⟨g40, 1, none⟩ = some (.int .i64 0) := by simp [World.cell?, hz40']
            have u0 : wB.frozen? ⟨g40, 0, none⟩ = false := by simp [World.frozen?, hz40']
            have u1 : wB.frozen? ⟨g40, 1, none⟩ = false := by simp [World.frozen?, hz40']
            have hzz : ∀ k, k = g40 → ZB wB k ∧ wA.heap.size ≤ k := fun k e => by subst e; exact ⟨.inl hz40', hg40⟩
            have hkS := two_cells wB g40 (.slice a1 n1 c1) (.int .i64 (last1 : Int))
            have hSS := hid (hS.news hkS hzz (fun q hq x hx => hNA.bodies.lt q hq x hx) hNA.lt hNA.own.lt)
            have hrb := two_r hz40' (.slice a1 n1 c1) (.int .i64 (last1 : Int))
            have hglB : ¬ gl = g40 := fun e => by have h1 := V.llt; have h3 := hkA.size; omega
            have hglS := hkS.block gl (by have h1 := V.llt; have h3 := hkA.size; have h4 := bB.size; omega) hglB
            rw [bB.block gl (by have h1 := V.llt; have h3 := hkA.size; omega), V.gla hkA] at hglS
            have hX : ∀ k, k = g40 → w.heap.size ≤ k := fun k e => Nat.le_trans hkA.size (hzz k e).2
            have hgg : gl < wB.heap.size ∧ g40 < wB.heap.size := ⟨by have h1 := V.llt; have h3 := hkA.size; have h4 := bB.size; omega, hl40⟩
            replace hS := hid hS
            replace hz40 := hid hz40
            replace hz40' := hid hz40'
            replace hzz := hid hzz
            replace hkS := hid hkS
            replace hrb := hid hrb
            replace hglS := hid hglS
            replace hX := hid hX
            replace hglB := hid hglB
            replace V := hid V
            replace hNA := hid hNA
            replace hkA := hid hkA
            replace bB := hid bB
            try clear kR
            change wpAny Try.prog .any _ _ (3 + 1) _ _ _
            refine wpAny_take (i := 13) (v := .int .i64 ec) rfl (by kernel_rfl) (by kernel_rfl) (by kernel_rfl) (fun _ _ _ h => h) (Or.inl ⟨by rfl, ?_⟩) ?_
            · intro w
              go_simp
            change wpAny Try.prog .any _ _ (2 + 1) _ _ _
            refine wpAny_ready (rs := [15]) (by kernel_rfl) (by simp) ?_
            refine AllReady.cons rfl (fun K hK => ?_) AllReady.nil
            go_simp
            refine hK _ _ ?_
            clear hK K
            change wpAny Try.prog .any _ _ (1 + 1) _ _ _
            refine wpAny_ready (rs := [16]) (by kernel_rfl) (by simp) ?_
            refine AllReady.cons rfl (fun K hK => ?_) AllReady.nil
            go_simp
            refine hK _ _ ?_
            clear hK K
            change wpAny Try.prog .any _ _ (0 + 1) _ _ _
            refine wpAny_ready (rs := [17]) (by kernel_rfl) (by simp) ?_
            refine AllReady.cons rfl (fun K hK => ?_) AllReady.nil
            go_simp
            refine hK _ _ ?_
            clear hK K
            refine wpAny_done (by kernel_rfl) ?_ _
            replace V := V.out
            replace hNA := hNA.out
            replace hkA := hkA.out
            replace bB := bB.out
            clear y0 y1 u0 u1
            generalize (wB.setCell ⟨g40, 0, none⟩ (.slice a1 n1 c1)).setCell ⟨g40, 1, none⟩ (.int .i64 (last1 : Int)) = wS at *
            have r0 := hrb.out.cell0
            have r1 := hrb.out.cell1
            have l0 := (lcell hglS.out hon).1
            have l1 := (lcell hglS.out hon).2.1
            have k0 := (lcell hglS.out hon).2.2.1
            have k1 := (lcell hglS.out hon).2.2.2
            have hfin := V.fin hkA bB hkS.out hX.out hbw hSS.out
            replace V := hid V
            replace hNA := hid hNA
            replace hkA := hid hkA
            replace bB := hid bB
            replace hfin := hid hfin
            have hgi9 : ¬ gi = gl := fun e => by have h1 := V.out.llt; omega
            have hOwA := hid ((hOw.out.kp hk2A.out (fun k e1 e2 => by
              have e3 : gi = k := Option.some.inj e1
              rw [← e3] at e2
              have h1 := V.out.sd.net.lt
              have h2 := V.out.sd.net.own.lt
              rcases e2 with e2 | e2 <;> omega)).below bB.out)
            have hgA : gi < wA.heap.size := by have h1 := hk2A.out.size; omega
            have hOwS := hid (hOwA.out.kp hkS.out (fun k e1 e2 => by
              have e3 : gi = k := Option.some.inj e1
              have h1 := (hzz.out k e2).2
              omega))
            have kE := hid (two_gl1 wS gl on (.slice a1 n1 c1) (.int .i64 (last1 : Int)))
            have hOwE := hid (hOwS.out.kp kE.out (fun k e1 e2 => by
              have e3 : gi = k := Option.some.inj e1
              omega))
            have hatE := hid (((hatA.below bB.out).kp2 hkS.out (fun hl0 x hx e => by have h1 := hba.out hl0 x hx; have h2 := (hzz.out _ e).2; have h3 := hkA.out.size; omega)).kp2 kE.out (fun hl0 x hx e => by have h1 := hba.out hl0 x hx; have h2 := V.out.bs.2.2.2.2.2; omega))
            have h9n : ¬ g9 = gl := fun e => hT9 (by simp [T6, e])
            have h9lt := h9.out.lt
            have h9S := hid (((h9.out.kt hT9 hkA.out).kp (Kp.of_below (S := fun _ => False) bB.out) (fun e => e)).kp hkS.out (fun e => by have h2 := (hzz.out _ e).2; have h3 := hkA.out.size; omega))
            have x94 := h9S.out.cells.2.2.1
            have h9n' : ¬ gl = g9 := fun e => h9n e.symm
            go_wp2_with fail
            generalize (wS.setCell ⟨gl, on * 2, none⟩ (.slice a1 n1 c1)).setCell ⟨gl, on * 2 + 1, none⟩ (.int .i64 (last1 : Int)) = wE at *
            refine (kept_any gi cg bc len ba body _ hl.out hlen hcg (own_at hOwE.out) hatE.out).mono ?_
            rintro e w9 ⟨rfl, rfl⟩
            clear x94 r0 r1 l0 l1 k0 k1
            go_wp2_with fail
            refine (over_any gi cg len w.heap.size (body ++ [77, 78, 79]) _ hlen hcg (by rw [List.length_append, hl.out]; rfl) hOwE.out).mono ?_
            rintro e wO ⟨rfl, hkO⟩
            have hV9 := hid (V.out.over hfin.out.1 hkO hgi0 (fun q hq x hx e => by have h1 := hofA.out q hq x hx; omega) (fun x hx e => by have h1 := hOf.a x hx; omega) (fun q hq x hx e => by have h1 := hOf.r q hq x hx; omega))
            have hB9 := hid (hfin.out.2.trans (hkO.below (fun k e => by omega) (Nat.le_trans hbw hfin.out.2.size)))
            go_wp2_with fail
            have hPN : PN base gd gl on wO (b + 1) := ⟨_, _, _, _, _, _, _, _, _, _, _, _, _, _, _, _, hV9.out, by omega, by omega⟩
            exact hN.out _ _ _ _ _ _ _ _ _ _ _ _ _ _ _ _ _ _ _ _ _ _ _ _ _ _ _ _ _ _ _ _ _ _ _ _ _ _ _ _ _ _ _ _ _ _ _ _ _ _ _ _ _ _ _ _ _ _ _ _ _ _ _ _ _ _ _ _ _ _ _ _ _ _ _ _ _ _ _ _ _ _ _ _ _ _ _ _ _ _ _ _ _ _ _ _ _ _ _ _ _ _ _ _ _ _ _ _ _ _ _ _ _ _ _ _ _ _ _ _ _ _ _ _ _ _ _ _ _ _ _ _ _ _ _ _ _ _ _ _ _ _ _ _ _ _ _ _ _ _ _ _ _ _ _ _ _ _ _ _ _ _ _ _ _ _ _ _ _ _ _ _ _ _ _ _ hPN hB9.out
          · skip
            have hlag : lagOf 18 15 [12, 13] bb = #[true, true, true, true, true, true, true, true, true, true, true, true, true, true, true, false, false, false] := by rw [show lagOf 18 15 [12, 13] bb = #[true, true, true, true, true, true, true, true, true, true, true, true, bb 12, bb 13, true, false, false, false] from rfl, hb12, hb13]
            obtain q105 := (hval 12 _ 105 (fun _ => hb12) rfl rfl).out rfl
            have h105 := (congrFun hf 105).trans q105
            obtain q106 := (hval 13 _ 106 (fun _ => hb13) rfl rfl).out rfl
            have h106 := (congrFun hf 106).trans q106
            change wpAny Try.prog .any _ _ (18 - (lagOf 18 15 [12, 13] bb).toList.count true) (lagOf 18 15 [12, 13] bb) _ _
            rw [hlag]
            clear hlag hdf hsz hkp hval hfa hf
            simp only [fillAll, List.take, List.set_cons_zero, List.set_cons_succ, h93, h104, h15, h105, h106]
            clear h93 h104 h15 h105 h106 q93 q104 q15 q105 q106 hb12 hb13
            have hz40' : wB.heap[g40]? = some (.cells #[.slice none 0 0, .int .i64 0] 40 (0, 0)) := hz40
            have y0 : wB.cell? ⟨g40, 0, none⟩ = some (.slice none 0 0) := by simp [World.cell?, hz40']
            have y1 : wB.cell? ⟨g40, 1, none⟩ = some (.int .i64 0) := by simp [World.cell?, hz40']
            have u0 : wB.frozen? ⟨g40, 0, none⟩ = false := by simp [World.frozen?, hz40']
            have u1 : wB.frozen? ⟨g40, 1, none⟩ = false := by simp [World.frozen?, hz40']
            have hzz : ∀ k, k = g40 → ZB wB k ∧ wA.heap.size ≤ k := fun k e => by subst e; exact ⟨.inl hz40', hg40⟩
            have hkS := two_cells wB g40 (.slice a1 n1 c1) (.int .i64 (last1 : Int))
            have hSS := hid (hS.news hkS hzz (fun q hq x hx => hNA.bodies.lt q hq x hx) hNA.lt hNA.own.lt)
            have hrb := two_r hz40' (.slice a1 n1 c1) (.int .i64 (last1 : Int))
            have hglB : ¬ gl = g40 := fun e => by have h1 := V.llt; have h3 := hkA.size; omega
            have hglS := hkS.block gl (by have h1 := V.llt; have h3 := hkA.size; have h4 := bB.size; omega) hglB
            rw [bB.block gl (by have h1 := V.llt; have h3 := hkA.size; omega), V.gla hkA] at hglS
            have hX : ∀ k, k = g40 → w.heap.size ≤ k := fun k e => Nat.le_trans hkA.size (hzz k e).2
            have hgg : gl < wB.heap.size ∧ g40 < wB.heap.size := ⟨by have h1 := V.llt; have h3 := hkA.size; have h4 := bB.size; omega, hl40⟩
            replace hS := hid hS
            replace hz40 := hid hz40
            replace hz40' := hid hz40'
            replace hzz := hid hzz
            replace hkS := hid hkS
            replace hrb := hid hrb
            replace hglS := hid hglS
            replace hX := hid hX
            replace hglB := hid hglB
            replace V := hid V
            replace hNA := hid hNA
            replace hkA := hid hkA
            replace bB := hid bB
            try clear kR
            change wpAny Try.prog .any _ _ (2 + 1) _ _ _
            refine wpAny_ready (rs := [15]) (by kernel_rfl) (by simp) ?_
            refine AllReady.cons rfl (fun K hK => ?_) AllReady.nil
            go_simp
            refine hK _ _ ?_
            clear hK K
            change wpAny Try.prog .any _ _ (1 + 1) _ _ _
            refine wpAny_ready (rs := [16]) (by kernel_rfl) (by simp) ?_
            refine AllReady.cons rfl (fun K hK => ?_) AllReady.nil
            go_simp
            refine hK _ _ ?_
            clear hK K
            change wpAny Try.prog .any _ _ (0 + 1) _ _ _
            refine wpAny_ready (rs := [17]) (by kernel_rfl) (by simp) ?_
            refine AllReady.cons rfl (fun K hK => ?_) AllReady.nil
            go_simp
            refine hK _ _ ?_
            clear hK K
            refine wpAny_done (by kernel_rfl) ?_ _
            replace V := V.out
            replace hNA := hNA.out
            replace hkA := hkA.out
            replace bB := bB.out
            clear y0 y1 u0 u1
            generalize (wB.setCell ⟨g40, 0, none⟩ (.slice a1 n1 c1)).setCell ⟨g40, 1, none⟩ (.int .i64 (last1 : Int)) = wS at *
            have r0 := hrb.out.cell0
            have r1 := hrb.out.cell1
            have l0 := (lcell hglS.out hon).1
            have l1 := (lcell hglS.out hon).2.1
            have k0 := (lcell hglS.out hon).2.2.1
            have k1 := (lcell hglS.out hon).2.2.2
            have hfin := V.fin hkA bB hkS.out hX.out hbw hSS.out
            replace V := hid V
            replace hNA := hid hNA
            replace hkA := hid hkA
            replace bB := hid bB
            replace hfin := hid hfin
            have hgi9 : ¬ gi = gl := fun e => by have h1 := V.out.llt; omega
            have hOwA := hid ((hOw.out.kp hk2A.out (fun k e1 e2 => by
              have e3 : gi = k := Option.some.inj e1
              rw [← e3] at e2
              have h1 := V.out.sd.net.lt
              have h2 := V.out.sd.net.own.lt
              rcases e2 with e2 | e2 <;> omega)).below bB.out)
            have hgA : gi < wA.heap.size := by have h1 := hk2A.out.size; omega
            have hOwS := hid (hOwA.out.kp hkS.out (fun k e1 e2 => by
              have e3 : gi = k := Option.some.inj e1
              have h1 := (hzz.out k e2).2
              omega))
            have kE := hid (two_gl1 wS gl on (.slice a1 n1 c1) (.int .i64 (last1 : Int)))
            have hOwE := hid (hOwS.out.kp kE.out (fun k e1 e2 => by
              have e3 : gi = k := Option.some.inj e1
              omega))
            have hatE := hid (((hatA.below bB.out).kp2 hkS.out (fun hl0 x hx e => by have h1 := hba.out hl0 x hx; have h2 := (hzz.out _ e).2; have h3 := hkA.out.size; omega)).kp2 kE.out (fun hl0 x hx e => by have h1 := hba.out hl0 x hx; have h2 := V.out.bs.2.2.2.2.2; omega))
            have h9n : ¬ g9 = gl := fun e => hT9 (by simp [T6, e])
            have h9lt := h9.out.lt
            have h9S := hid (((h9.out.kt hT9 hkA.out).kp (Kp.of_below (S := fun _ => False) bB.out) (fun e => e)).kp hkS.out (fun e => by have h2 := (hzz.out _ e).2; have h3 := hkA.out.size; omega))
            have x94 := h9S.out.cells.2.2.1
            have h9n' : ¬ gl = g9 := fun e => h9n e.symm
            go_wp2_with fail
            generalize (wS.setCell ⟨gl, on * 2, none⟩ (.slice a1 n1 c1)).setCell ⟨gl, on * 2 + 1, none⟩ (.int .i64 (last1 : Int)) = wE at *
            refine (kept_any gi cg bc len ba body _ hl.out hlen hcg (own_at hOwE.out) hatE.out).mono ?_
            rintro e w9 ⟨rfl, rfl⟩
            clear x94 r0 r1 l0 l1 k0 k1
            go_wp2_with fail
            refine (over_any gi cg len w.heap.size (body ++ [77, 78, 79]) _ hlen hcg (by rw [List.length_append, hl.out]; rfl) hOwE.out).mono ?_
            rintro e wO ⟨rfl, hkO⟩
            have hV9 := hid (V.out.over hfin.out.1 hkO hgi0 (fun q hq x hx e => by have h1 := hofA.out q hq x hx; omega) (fun x hx e => by have h1 := hOf.a x hx; omega) (fun q hq x hx e => by have h1 := hOf.r q hq x hx; omega))
            have hB9 := hid (hfin.out.2.trans (hkO.below (fun k e => by omega) (Nat.le_trans hbw hfin.out.2.size)))
            go_wp2_with fail
            have hPN : PN base gd gl on wO (b + 1) := ⟨_, _, _, _, _, _, _, _, _, _, _, _, _, _, _, _, hV9.out, by omega, by omega⟩
            exact hN.out _ _ _ _ _ _ _ _ _ _ _ _ _ _ _ _ _ _ _ _ _ _ _ _ _ _ _ _ _ _ _ _ _ _ _ _ _ _ _ _ _ _ _ _ _ _ _ _ _ _ _ _ _ _ _ _ _ _ _ _ _ _ _ _ _ _ _ _ _ _ _ _ _ _ _ _ _ _ _ _ _ _ _ _ _ _ _ _ _ _ _ _ _ _ _ _ _ _ _ _ _ _ _ _ _ _ _ _ _ _ _ _ _ _ _ _ _ _ _ _ _ _ _ _ _ _ _ _ _ _ _ _ _ _ _ _ _ _ _ _ _ _ _ _ _ _ _ _ _ _ _ _ _ _ _ _ _ _ _ _ _ _ _ _ _ _ _ _ _ _ _ _ _ _ _ _ hPN hB9.out

end Go.Proofs.Ytgjjgfppolmkoaa
