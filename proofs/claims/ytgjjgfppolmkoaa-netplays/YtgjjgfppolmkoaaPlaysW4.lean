/- NetPlays: Double. -/
import Derived.Test.YtgjjgfppolmkoaaPlaysC2
import Derived.Test.YtgjjgfppolmkoaaDraw4
namespace Go.Proofs.Ytgjjgfppolmkoaa
open Go.RowKit Go.Maps
set_option linter.unusedVariables false

def pv33 (gd on p g9 : Nat) (k num ec : Int) : List Value := [.int .i64 (on : Int), .pointer (some ⟨gd, on, none⟩), .pointer (some ⟨p, 0, none⟩), .pointer (some ⟨g9, 5, none⟩), .int .i64 k, .tuple #[.int .i64 num, .int .i64 ec], .tuple #[.int .i64 num, .int .i64 ec], .int .i64 num, .int .i64 ec]

def pv34 (gl on n c last g9 : Nat) (a : Option Addr) (k : Int) : List Value := [.int .i64 (on : Int), .pointer (some ⟨gl, on * 2, none⟩), .agg #[.slice a n c, .int .i64 (last : Int)], .pointer (some ⟨g9, 5, none⟩), .int .i64 k, undef, undef, undef, undef, undef, undef]

set_option maxRecDepth 1000000 in
set_option maxHeartbeats 8000000 in
theorem plays_w4 {F : Act → World → Prop} {w : World} {base gd gl g9 on b : Nat} {kind onv fr to k : Int} {ba : Option Addr} {len bc : Nat} {body : List UInt8} {c0 c1 c2 c3 c4 c7 c8 c12 c13 c14 c15 c16 c17 c18 c19 c20 c21 c22 c23 c24 c25 c26 c27 c28 c29 c30 c31 c32 c33 c34 c35 c36 c37 c38 c39 c40 c41 c42 c43 c44 c45 c46 c47 c48 c49 c50 c51 c52 c53 c54 c55 c56 c57 c58 c59 c60 c61 c62 c63 c64 c65 c66 c67 c68 c69 c70 c71 c72 c73 c74 c76 c77 c78 c79 c80 c81 c82 c83 c84 c85 c86 c87 c88 c89 c90 c91 c92 c93 c94 c95 c96 c97 c98 c99 c100 c101 c102 c103 c104 c105 c106 c107 c108 c109 c110 c111 c112 c113 c114 c115 c116 c117 c118 c119 c120 c121 c122 c123 c124 c125 c126 c127 c128 c129 c130 c131 c132 c133 c134 c135 c136 c137 c138 c139 c140 c141 c142 c143 c144 c145 c146 c147 c148 c149 c150 c151 c152 c153 c154 c155 c156 c157 c158 c159 c160 c161 c162 c163 c164 c165 c166 c167 c168 c169 c170 c171 c172 c173 c174 c175 c176 c177 c178 c179 c180 c181 c182 c183 c184 c185 c186 c187 c188 c189 c190 c191 c192 c193 c194 c195 c196 c197 c198 c199 c200 c201 c202 c203 c204 c205 c206 c207 c208 c209 c210 c211 c212 c213 c214 c215 c216 c217 c218 c219 c220 c221 c222 c223 c224 c225 c226 c227 c228 c229 c230 c231 c232 c233 c234 c235 c236 c237 c238 c239 c240 c241 c242 c243 c244 c245 c246 c247 c248 c249 c250 c251 c252 c253 c254 c255 c256 c257 c258 c259 c260 c261 c262 c263 : Value}
    (hP : Hid (PO base gd gl g9 on w b)) (hb : b ≤ 1000) (h9 : Hid (O9 w g9 kind onv fr to ba len bc k)) (hl : Hid (body.length = len)) (hlen : len ≤ 140737488355328) (hat : Hid (At w ba body)) (hba : Hid (body ≠ [] → ∀ x, ba = some x → x.block < base)) (hnum : Hid ((Lit.int .i64 k).wf = true)) (hkind : kind = 4)
    (hN : Hid (∀ (d12 d13 d14 d15 d16 d17 d18 d19 d20 d21 d22 d23 d24 d25 d26 d27 d28 d29 d30 d31 d76 d77 d78 d79 d80 d81 d82 d83 d84 d85 d86 d87 d88 d89 d90 d91 d92 d93 d94 d95 d96 d97 d98 d99 d100 d101 d102 d103 d104 d105 d106 d107 d108 d109 d110 d111 d112 d113 d114 d115 d116 d117 d118 d119 d120 d121 d122 d123 d124 d125 d126 d127 d128 d129 d130 d131 d132 d133 d134 d135 d136 d137 d138 d139 d140 d141 d142 d143 d144 d145 d146 d147 d148 d149 d150 d151 d152 d153 d154 d155 d156 d157 d158 d159 d160 d161 d162 d163 d164 d165 d166 d167 d168 d169 d170 d171 d172 d173 d174 d175 d176 d177 d178 d179 d180 d181 d182 d183 d184 d185 d186 d187 d188 d189 d190 d191 d192 d193 d194 d195 d196 d197 d198 d199 d200 d201 d202 d203 d204 d205 d206 d207 d208 d209 d210 d211 d212 d213 d214 d215 d216 d217 d218 d219 d220 d221 d222 d223 d224 d225 d226 d227 d228 d229 d230 : Value) (wE : World), PN base gd gl on wE (b + 1) → Below base w wE → F ⟨#[c0, c1, c2, c3, c4, .pointer (some ⟨gd, 0, none⟩), .pointer (some ⟨gl, 0, none⟩), c7, c8, .pointer (some ⟨g9, 0, none⟩), .int .i64 (on : Int), .bool true, d12, d13, d14, d15, d16, d17, d18, d19, d20, d21, d22, d23, d24, d25, d26, d27, d28, d29, d30, d31, c32, c33, c34, c35, c36, c37, c38, c39, c40, c41, c42, c43, c44, c45, c46, c47, c48, c49, c50, c51, c52, c53, c54, c55, c56, c57, c58, c59, c60, c61, c62, c63, c64, c65, c66, c67, c68, c69, c70, c71, c72, c73, c74, .int .i64 kind, d76, d77, d78, d79, d80, d81, d82, d83, d84, d85, d86, d87, d88, d89, d90, d91, d92, d93, d94, d95, d96, d97, d98, d99, d100, d101, d102, d103, d104, d105, d106, d107, d108, d109, d110, d111, d112, d113, d114, d115, d116, d117, d118, d119, d120, d121, d122, d123, d124, d125, d126, d127, d128, d129, d130, d131, d132, d133, d134, d135, d136, d137, d138, d139, d140, d141, d142, d143, d144, d145, d146, d147, d148, d149, d150, d151, d152, d153, d154, d155, d156, d157, d158, d159, d160, d161, d162, d163, d164, d165, d166, d167, d168, d169, d170, d171, d172, d173, d174, d175, d176, d177, d178, d179, d180, d181, d182, d183, d184, d185, d186, d187, d188, d189, d190, d191, d192, d193, d194, d195, d196, d197, d198, d199, d200, d201, d202, d203, d204, d205, d206, d207, d208, d209, d210, d211, d212, d213, d214, d215, d216, d217, d218, d219, d220, d221, d222, d223, d224, d225, d226, d227, d228, d229, d230, c231, c232, c233, c234, c235, c236, c237, c238, c239, c240, c241, c242, c243, c244, c245, c246, c247, c248, c249, c250, c251, c252, c253, c254, c255, c256, c257, c258, c259, c260, c261, c262, c263], []⟩ wE)) :
    Code.wp Try.prog ((Try.f4.body.bind (blkAt 4)).getD .skip) (Nrm F) ⟨#[c0, c1, c2, c3, c4, .pointer (some ⟨gd, 0, none⟩), .pointer (some ⟨gl, 0, none⟩), c7, c8, .pointer (some ⟨g9, 0, none⟩), .int .i64 (on : Int), .bool true, c12, c13, c14, c15, c16, c17, c18, c19, c20, c21, c22, c23, c24, c25, c26, c27, c28, c29, c30, c31, c32, c33, c34, c35, c36, c37, c38, c39, c40, c41, c42, c43, c44, c45, c46, c47, c48, c49, c50, c51, c52, c53, c54, c55, c56, c57, c58, c59, c60, c61, c62, c63, c64, c65, c66, c67, c68, c69, c70, c71, c72, c73, c74, .int .i64 kind, c76, c77, c78, c79, c80, c81, c82, c83, c84, c85, c86, c87, c88, c89, c90, c91, c92, c93, c94, c95, c96, c97, c98, c99, c100, c101, c102, c103, c104, c105, c106, c107, c108, c109, c110, c111, c112, c113, c114, c115, c116, c117, c118, c119, c120, c121, c122, c123, c124, c125, c126, c127, c128, c129, c130, c131, c132, c133, c134, c135, c136, c137, c138, c139, c140, c141, c142, c143, c144, c145, c146, c147, c148, c149, c150, c151, c152, c153, c154, c155, c156, c157, c158, c159, c160, c161, c162, c163, c164, c165, c166, c167, c168, c169, c170, c171, c172, c173, c174, c175, c176, c177, c178, c179, c180, c181, c182, c183, c184, c185, c186, c187, c188, c189, c190, c191, c192, c193, c194, c195, c196, c197, c198, c199, c200, c201, c202, c203, c204, c205, c206, c207, c208, c209, c210, c211, c212, c213, c214, c215, c216, c217, c218, c219, c220, c221, c222, c223, c224, c225, c226, c227, c228, c229, c230, c231, c232, c233, c234, c235, c236, c237, c238, c239, c240, c241, c242, c243, c244, c245, c246, c247, c248, c249, c250, c251, c252, c253, c254, c255, c256, c257, c258, c259, c260, c261, c262, c263], []⟩ w := by
  conv => arg 2; whnf
  obtain ⟨p, m, L, last, a, n, c, R, p', m', L', last', a', n', c', R', V, hb1, hb2, hT9⟩ := hP.out
  subst hkind
  have hon := V.on2
  have hon0 : (0 : Int) ≤ (on : Int) := by omega
  have hon2 : (on : Int) < 2 := by omega
  have hbw : base ≤ w.heap.size := by have h1 := V.bs.1; have h2 := V.sd.net.lt; omega

  obtain ⟨num, ec, last1, L1, hl1, hbod, kD, kR⟩ := dbl_both V k hnum.out (by omega)
  replace V := hid V
  replace kD := hid kD
  replace kR := hid kR
  replace hbod := hid hbod
  go_wp2_with fail
  replace V := V.out
  replace kD := kD.out
  refine wp_region_lag 9 [8] (Bf := TB w) (Af := TA w p m L1 last1) (C := 5) (Pr := PrV (pv33 gd on p g9 k num ec) [] (fun _ _ _ => True)) (by kernel_rfl) (by kernel_rfl) (by decide) (by decide) (by decide) (drew_below _) ?_ (by kernel_rfl) ?_
  · refine ⟨?_, ?_, ?_, ?_, ?_, ?_, ?_, ?_, ?_, trivial⟩
    · exact fun ac w hC hBA hd hk K hK => yes (want_n rfl) (wp_mv _ rfl _ (get_keep (hk 10 (no_dst (by kernel_rfl))) rfl) (hK _ w (PrV.is rfl rfl) (fun e => absurd e (by decide)) (fun _ => ⟨id, id⟩) (fun _ _ _ h => h)))
    · intro ac w hC hBA hd hk K hK
      have e5 : ac.tmps[5]?.getD undef = (.pointer (some ⟨gd, 0, none⟩) : Value) := slot (get_keep (hk 5 (no_dst (by kernel_rfl))) rfl)
      have e187 : ac.tmps[187]?.getD undef = (.int .i64 (on : Int) : Value) := slot ((hd 0 _ 187 rfl rfl rfl).val rfl)
      refine yes (want_n rfl) ?_
      have hv := hid (hK (.pointer (some ⟨gd, on, none⟩)) w (PrV.is rfl rfl) (fun e => absurd e (by decide)) (fun _ => ⟨id, id⟩) (fun _ _ _ h => h))
      clear hK hC hBA hd hk
      go_simp
      refine kq hv.out ?_
      rfl
    · intro ac w hC hBA hd hk K hK
      have e188 : ac.tmps[188]?.getD undef = (.pointer (some ⟨gd, on, none⟩) : Value) := slot ((hd 1 _ 188 rfl rfl rfl).val rfl)
      have x0 := V.dk (tba hBA)
      refine yes (want_n rfl) ?_
      have hv := hid (hK (.pointer (some ⟨p, 0, none⟩)) w (PrV.is rfl rfl) (fun e => absurd e (by decide)) (fun _ => ⟨id, id⟩) (fun _ _ _ h => h))
      clear hK hC hBA hd hk
      go_simp
      refine kq hv.out ?_
      rfl
    · intro ac w hC hBA hd hk K hK
      have e9 : ac.tmps[9]?.getD undef = (.pointer (some ⟨g9, 0, none⟩) : Value) := slot (get_keep (hk 9 (no_dst (by kernel_rfl))) rfl)
      refine yes (want_n rfl) ?_
      have hv := hid (hK (.pointer (some ⟨g9, 5, none⟩)) w (PrV.is rfl rfl) (fun e => absurd e (by decide)) (fun _ => ⟨id, id⟩) (fun _ _ _ h => h))
      clear hK hC hBA hd hk
      go_simp
      refine kq hv.out ?_
      rfl
    · intro ac w hC hBA hd hk K hK
      have e190 : ac.tmps[190]?.getD undef = (.pointer (some ⟨g9, 5, none⟩) : Value) := slot ((hd 3 _ 190 rfl rfl rfl).val rfl)
      have x0 := (h9.out.kt hT9 (tba hBA)).cells.2.2.2
      refine yes (want_n rfl) ?_
      have hv := hid (hK (.int .i64 k) w (PrV.is rfl rfl) (fun e => absurd e (by decide)) (fun _ => ⟨id, id⟩) (fun _ _ _ h => h))
      clear hK hC hBA hd hk
      go_simp
      refine kq hv.out ?_
      rfl
    · intro ac w hC hBA hd hk K hK
      refine yes (want_n rfl) ?_
      refine wp_callv 11 _ _ rfl _ Try.func11 rfl rfl _ (args2 ((hd 2 _ 189 rfl rfl rfl).val rfl) ((hd 4 _ 191 rfl rfl rfl).val rfl)) (kD w (hC rfl)) ?_
      rintro e w' ⟨rfl, hN1, hk1⟩
      exact ⟨_, rfl, hK _ w' (PrV.is rfl rfl) (fun _ => ⟨hN1, (Kp.of_below (hC rfl)).trans hk1⟩) (fun h => absurd rfl h) (fun j u hj h => PrV.mono2 id h)⟩
    · exact fun ac w hC hBA hd hk K hK => yes (want_n rfl) (wp_mv _ rfl _ ((hd 5 _ 192 rfl rfl rfl).val rfl) (hK _ w (PrV.is rfl rfl) (fun e => absurd e (by decide)) (fun _ => ⟨id, id⟩) (fun _ _ _ h => h)))
    · intro ac w hC hBA hd hk K hK
      have e186 : ac.tmps[186]?.getD undef = (.tuple #[.int .i64 num, .int .i64 ec] : Value) := slot ((hd 6 _ 186 rfl rfl rfl).val rfl)
      refine yes (want_n rfl) ?_
      have hv := hid (hK (.int .i64 num) w (PrV.is rfl rfl) (fun e => absurd e (by decide)) (fun _ => ⟨id, id⟩) (fun _ _ _ h => h))
      clear hK hC hBA hd hk
      go_simp
      refine kq hv.out ?_
      rfl
    · intro ac w hC hBA hd hk K hK
      have e186 : ac.tmps[186]?.getD undef = (.tuple #[.int .i64 num, .int .i64 ec] : Value) := slot ((hd 6 _ 186 rfl rfl rfl).val rfl)
      refine yes (want_n rfl) ?_
      have hv := hid (hK (.int .i64 ec) w (PrV.is rfl rfl) (fun e => absurd e (by decide)) (fun _ => ⟨id, id⟩) (fun _ _ _ h => h))
      clear hK hC hBA hd hk
      go_simp
      refine kq hv.out ?_
      rfl
  · intro bb ac wA hdf hsz hkp hval hAf
    have q192 : ac.tmps.getD 192 undef = (.tuple #[.int .i64 num, .int .i64 ec] : Value) := (hval 5 _ 192 (fun h => absurd h (by decide)) rfl rfl).val rfl
    have q186 : ac.tmps.getD 186 undef = (.tuple #[.int .i64 num, .int .i64 ec] : Value) := (hval 6 _ 186 (fun h => absurd h (by decide)) rfl rfl).val rfl
    have q193 : ac.tmps.getD 193 undef = (.int .i64 num : Value) := (hval 7 _ 193 (fun h => absurd h (by decide)) rfl rfl).val rfl
    obtain ⟨f, hf⟩ : ∃ f, f = fun d => ac.tmps.getD d undef := ⟨_, rfl⟩
    have h192 : f 192 = (.tuple #[.int .i64 num, .int .i64 ec] : Value) := by rw [hf]; exact q192
    have h186 : f 186 = (.tuple #[.int .i64 num, .int .i64 ec] : Value) := by rw [hf]; exact q186
    have h193 : f 193 = (.int .i64 num : Value) := by rw [hf]; exact q193
    have hfa := act_filled hdf hsz hkp
    rw [← hf] at hfa
    rw [hfa]
    cases hb8 : bb 8
    · skip
      have hlag : lagOf 11 9 [8] bb = #[true, true, true, true, true, true, true, true, false, false, false] := by rw [show lagOf 11 9 [8] bb = #[true, true, true, true, true, true, true, true, bb 8, false, false] from rfl, hb8]
      change wpAny Try.prog .any _ _ (11 - (lagOf 11 9 [8] bb).toList.count true) (lagOf 11 9 [8] bb) _ _
      rw [hlag]
      clear hlag hdf hsz hkp hval hfa hf
      simp only [fillAll, List.take, List.set_cons_zero, List.set_cons_succ, h192, h186, h193]
      clear h192 h186 h193 q192 q186 q193 hb8
      obtain ⟨hNA, hkA⟩ := hAf
      clear kD
      replace V := hid V
      replace hNA := hid hNA
      replace hkA := hid hkA
      change wpAny Try.prog .any _ _ (2 + 1) _ _ _
      refine wpAny_take (i := 8) (v := .int .i64 ec) rfl (by kernel_rfl) (by kernel_rfl) (by kernel_rfl) (fun _ _ _ h => h) (Or.inl ⟨by rfl, ?_⟩) ?_
      · intro w
        go_simp
      change wpAny Try.prog .any _ _ (1 + 1) _ _ _
      refine wpAny_ready (rs := [9]) (by kernel_rfl) (by simp) ?_
      refine AllReady.cons rfl (fun K hK => ?_) AllReady.nil
      go_simp
      refine hK _ _ ?_
      clear hK K
      change wpAny Try.prog .any _ _ (0 + 1) _ _ _
      refine wpAny_ready (rs := [10]) (by kernel_rfl) (by simp) ?_
      refine AllReady.cons rfl (fun K hK => ?_) AllReady.nil
      go_simp
      refine hK _ _ ?_
      clear hK K
      refine wpAny_done (by kernel_rfl) ?_ _
      go_wp2_with fail
      replace V := V.out
      replace hNA := hNA.out
      replace hkA := hkA.out
      replace kR := kR.out
      refine wp_region_lag 11 [8, 9] (Bf := (fun w' => Below wA.heap.size wA w')) (Af := (fun w' => Below wA.heap.size wA w')) (C := 5) (Pr := PrV (pv34 gl on n c last g9 a k) [5, 6, 7, 8, 9, 10] (R22 5 (T6 p m p' m' gd gl) (fun _ _ => True) wA.heap.size p m L1 last1 num ec)) (by kernel_rfl) (by kernel_rfl) (by decide) (by decide) (by decide) (drew_below _) ?_ (by kernel_rfl) ?_
      · refine ⟨?_, ?_, ?_, ?_, ?_, ?_, ?_, ?_, ?_, ?_, ?_, trivial⟩
        · exact fun ac w hC hBA hd hk K hK => yes (want_n rfl) (wp_mv _ rfl _ (get_keep (hk 10 (no_dst (by kernel_rfl))) rfl) (hK _ w (PrV.is rfl rfl) (fun e => absurd e (by decide)) (fun _ => ⟨id, id⟩) (fun _ _ _ h => h)))
        · intro ac w hC hBA hd hk K hK
          have e6 : ac.tmps[6]?.getD undef = (.pointer (some ⟨gl, 0, none⟩) : Value) := slot (get_keep (hk 6 (no_dst (by kernel_rfl))) rfl)
          have e196 : ac.tmps[196]?.getD undef = (.int .i64 (on : Int) : Value) := slot ((hd 0 _ 196 rfl rfl rfl).val rfl)
          refine yes (want_n rfl) ?_
          have hv := hid (hK (.pointer (some ⟨gl, on * 2, none⟩)) w (PrV.is rfl rfl) (fun e => absurd e (by decide)) (fun _ => ⟨id, id⟩) (fun _ _ _ h => h))
          clear hK hC hBA hd hk
          go_simp
          refine kq hv.out ?_
          rfl
        · intro ac w hC hBA hd hk K hK
          have e197 : ac.tmps[197]?.getD undef = (.pointer (some ⟨gl, on * 2, none⟩) : Value) := slot ((hd 1 _ 197 rfl rfl rfl).val rfl)
          have x := V.lk (hkA.then (hBA.elim id id))
          have x0 := x.1
          have x1 := x.2
          clear x
          refine yes (want_n rfl) ?_
          have hv := hid (hK (.agg #[.slice a n c, .int .i64 (last : Int)]) w (PrV.is rfl rfl) (fun e => absurd e (by decide)) (fun _ => ⟨id, id⟩) (fun _ _ _ h => h))
          clear hK hC hBA hd hk
          go_simp
          refine kq hv.out ?_
          rfl
        · intro ac w hC hBA hd hk K hK
          have e9 : ac.tmps[9]?.getD undef = (.pointer (some ⟨g9, 0, none⟩) : Value) := slot (get_keep (hk 9 (no_dst (by kernel_rfl))) rfl)
          refine yes (want_n rfl) ?_
          have hv := hid (hK (.pointer (some ⟨g9, 5, none⟩)) w (PrV.is rfl rfl) (fun e => absurd e (by decide)) (fun _ => ⟨id, id⟩) (fun _ _ _ h => h))
          clear hK hC hBA hd hk
          go_simp
          refine kq hv.out ?_
          rfl
        · intro ac w hC hBA hd hk K hK
          have e199 : ac.tmps[199]?.getD undef = (.pointer (some ⟨g9, 5, none⟩) : Value) := slot ((hd 3 _ 199 rfl rfl rfl).val rfl)
          have x0 := (h9.out.kt hT9 (hkA.then (hBA.elim id id))).cells.2.2.2
          refine yes (want_n rfl) ?_
          have hv := hid (hK (.int .i64 k) w (PrV.is rfl rfl) (fun e => absurd e (by decide)) (fun _ => ⟨id, id⟩) (fun _ _ _ h => h))
          clear hK hC hBA hd hk
          go_simp
          refine kq hv.out ?_
          rfl
        · intro ac w hC hBA hd hk K hK
          refine yes (want_n rfl) ?_
          refine wp_callv 22 _ _ rfl _ Try.func22 rfl rfl _ (args2 ((hd 2 _ 198 rfl rfl rfl).val rfl) ((hd 4 _ 200 rfl rfl rfl).val rfl)) (kR w (hNA.below (hC rfl)) (hkA.then (hC rfl))) ?_
          rintro e w' ⟨a1, n1, c1, R1, rfl, hS, hOf, hbw⟩
          exact ⟨_, rfl, hK _ w' (PrV.by rfl ⟨a1, n1, c1, R1, rfl, hS, trivial⟩) (fun _ => bnext (hC rfl) hbw) (fun h => absurd rfl h) (fun j u hj h => PrV.mono2 (R22.below hbw) h)⟩
        · intro ac w hC hBA hd hk K hK
          obtain ⟨a1, n1, c1, R1, e1, hS, hOf⟩ := ((hd 5 _ 201 rfl rfl rfl).out rfl)
          exact yes (want_n rfl) (wp_mv _ rfl _ e1 (hK _ w (PrV.by rfl ⟨a1, n1, c1, R1, rfl, hS, hOf⟩) (fun e => absurd e (by decide)) (fun _ => ⟨id, id⟩) (fun _ _ _ h => h)))
        · intro ac w hC hBA hd hk K hK
          obtain ⟨a1, n1, c1, R1, e1, hS, hOf⟩ := ((hd 6 _ 195 rfl rfl rfl).out rfl)
          have e2 := slot e1
          refine yes (want_n rfl) ?_
          have hv := hid (hK (.agg #[.slice a1 n1 c1, .int .i64 (last1 : Int)]) w (PrV.by rfl ⟨a1, n1, c1, R1, rfl, hS, hOf⟩) (fun e => absurd e (by decide)) (fun _ => ⟨id, id⟩) (fun _ _ _ h => h))
          clear hK hC hBA hd hk hS
          go_simp
          exact hv.out
        · intro ac w hC hBA hd hk K hK
          obtain ⟨a1, n1, c1, R1, e1, hS, hOf⟩ := ((hd 6 _ 195 rfl rfl rfl).out rfl)
          have e2 := slot e1
          refine yes (want_n rfl) ?_
          have hv := hid (hK (.int .i64 num) w (PrV.by rfl rfl) (fun e => absurd e (by decide)) (fun _ => ⟨id, id⟩) (fun _ _ _ h => h))
          clear hK hC hBA hd hk hS
          go_simp
          exact hv.out
        · intro ac w hC hBA hd hk K hK
          obtain ⟨a1, n1, c1, R1, e1, hS, hOf⟩ := ((hd 6 _ 195 rfl rfl rfl).out rfl)
          have e2 := slot e1
          refine yes (want_n rfl) ?_
          have hv := hid (hK (.int .i64 ec) w (PrV.by rfl rfl) (fun e => absurd e (by decide)) (fun _ => ⟨id, id⟩) (fun _ _ _ h => h))
          clear hK hC hBA hd hk hS
          go_simp
          exact hv.out
        · intro ac w hC hBA hd hk K hK
          have hbl := below_lit w (.cells z40 40)
          have hsz := (hBA.elim id id : Below wA.heap.size wA w).size
          have hv := hid (hK (.pointer (some ⟨w.heap.size, 0, none⟩)) (w.alloc (.cells z40 40)) (PrV.by rfl ⟨w.heap.size, rfl, hsz, by rw [World.size_alloc]; omega, heap_alloc_new w _⟩) (fun e => absurd e (by decide)) (fun _ => ⟨fun h => bnext h hbl, fun h => bnext h hbl⟩) (fun j u hj h => PrV.mono2 (R22.below hbl) h))
          refine yes (want_n rfl) ?_
          clear hK hC hBA hd hk
          go_simp
          exact hv.out
      · intro bb ac wB hdf hsz hkp hval bB
        obtain ⟨_, _, _, _, q195, _, _⟩ := (hval 6 _ 195 (fun h => absurd h (by decide)) rfl rfl).out rfl
        obtain ⟨a1, n1, c1, R1, q202, hS, hOf⟩ := (hval 7 _ 202 (fun h => absurd h (by decide)) rfl rfl).out rfl
        obtain ⟨g40, q29, hg40, hl40, hz40⟩ := (hval 10 _ 29 (fun h => absurd h (by decide)) rfl rfl).out rfl
        obtain ⟨f, hf⟩ : ∃ f, f = fun d => ac.tmps.getD d undef := ⟨_, rfl⟩
        have h195 := (congrFun hf 195).trans q195
        have h202 := (congrFun hf 202).trans q202
        have h29 := (congrFun hf 29).trans q29
        have hfa := act_filled hdf hsz hkp
        rw [← hf] at hfa
        rw [hfa]
        cases hb8 : bb 8
        · skip
          cases hb9 : bb 9
          · skip
            have hlag : lagOf 14 11 [8, 9] bb = #[true, true, true, true, true, true, true, true, false, false, true, false, false, false] := by rw [show lagOf 14 11 [8, 9] bb = #[true, true, true, true, true, true, true, true, bb 8, bb 9, true, false, false, false] from rfl, hb8, hb9]
            change wpAny Try.prog .any _ _ (14 - (lagOf 14 11 [8, 9] bb).toList.count true) (lagOf 14 11 [8, 9] bb) _ _
            rw [hlag]
            clear hlag hdf hsz hkp hval hfa hf
            simp only [fillAll, List.take, List.set_cons_zero, List.set_cons_succ, h195, h202, h29]
            clear h195 h202 h29 q195 q202 q29 hb8 hb9
            have hz40' : wB.heap[g40]? = some (.cells #[.slice none 0 0, .int .i64 0] 40 (0, 0)) := hz40
            have y0 : wB.cell? ⟨g40, 0, none⟩ = some (.slice none 0 0) := by simp [World.cell?, hz40']
            have y1 : wB.cell? ⟨g40, 1, none⟩ = some (.int .i64 0) := by simp [World.cell?, hz40']
            have u0 : wB.frozen? ⟨g40, 0, none⟩ = false := by simp [World.frozen?, hz40']
            have u1 : wB.frozen? ⟨g40, 1, none⟩ = false := by simp [World.frozen?, hz40']
            have hzz : ∀ k, k = g40 → ZB wB k ∧ wA.heap.size ≤ k := fun k e => by subst e; exact ⟨.inl hz40', hg40⟩
            have hkS := two_cells wB g40 (.slice a1 n1 c1) (.int .i64 (last1 : Int))
            have hSS := hid (hS.news hkS hzz (fun q hq x hx => hNA.bodies.lt q hq x hx) hNA.lt hNA.own.lt)
            have hrb := two_r hz40' (.slice a1 n1 c1) (.int .i64 (last1 : Int))
            have hglB : ¬ gl = g40 := fun e => by have h1 := V.llt; have h3 := hkA.size; omega
            have hglS := hkS.block gl (by have h1 := V.llt; have h3 := hkA.size; have h4 := bB.size; omega) hglB
            rw [bB.block gl (by have h1 := V.llt; have h3 := hkA.size; omega), V.gla hkA] at hglS
            have hX : ∀ k, k = g40 → w.heap.size ≤ k := fun k e => Nat.le_trans hkA.size (hzz k e).2
            have hgg : gl < wB.heap.size ∧ g40 < wB.heap.size := ⟨by have h1 := V.llt; have h3 := hkA.size; have h4 := bB.size; omega, hl40⟩
            replace hS := hid hS
            replace hz40 := hid hz40
            replace hz40' := hid hz40'
            replace hzz := hid hzz
            replace hkS := hid hkS
            replace hrb := hid hrb
            replace hglS := hid hglS
            replace hX := hid hX
            replace hglB := hid hglB
            replace V := hid V
            replace hNA := hid hNA
            replace hkA := hid hkA
            replace bB := hid bB
            try clear kR
            change wpAny Try.prog .any _ _ (4 + 1) _ _ _
            refine wpAny_take (i := 8) (v := .int .i64 num) rfl (by kernel_rfl) (by kernel_rfl) (by kernel_rfl) (fun _ _ _ h => h) (Or.inl ⟨by rfl, ?_⟩) ?_
            · intro w
              go_simp
            change wpAny Try.prog .any _ _ (3 + 1) _ _ _
            refine wpAny_take (i := 9) (v := .int .i64 ec) rfl (by kernel_rfl) (by kernel_rfl) (by kernel_rfl) (fun _ _ _ h => h) (Or.inl ⟨by rfl, ?_⟩) ?_
            · intro w
              go_simp
            change wpAny Try.prog .any _ _ (2 + 1) _ _ _
            refine wpAny_ready (rs := [11]) (by kernel_rfl) (by simp) ?_
            refine AllReady.cons rfl (fun K hK => ?_) AllReady.nil
            go_simp
            refine hK _ _ ?_
            clear hK K
            change wpAny Try.prog .any _ _ (1 + 1) _ _ _
            refine wpAny_ready (rs := [12]) (by kernel_rfl) (by simp) ?_
            refine AllReady.cons rfl (fun K hK => ?_) AllReady.nil
            go_simp
            refine hK _ _ ?_
            clear hK K
            change wpAny Try.prog .any _ _ (0 + 1) _ _ _
            refine wpAny_ready (rs := [13]) (by kernel_rfl) (by simp) ?_
            refine AllReady.cons rfl (fun K hK => ?_) AllReady.nil
            go_simp
            refine hK _ _ ?_
            clear hK K
            refine wpAny_done (by kernel_rfl) ?_ _
            replace V := V.out
            replace hNA := hNA.out
            replace hkA := hkA.out
            replace bB := bB.out
            clear y0 y1 u0 u1
            generalize (wB.setCell ⟨g40, 0, none⟩ (.slice a1 n1 c1)).setCell ⟨g40, 1, none⟩ (.int .i64 (last1 : Int)) = wS at *
            have r0 := hrb.out.cell0
            have r1 := hrb.out.cell1
            have l0 := (lcell hglS.out hon).1
            have l1 := (lcell hglS.out hon).2.1
            have k0 := (lcell hglS.out hon).2.2.1
            have k1 := (lcell hglS.out hon).2.2.2
            have hfin := V.fin hkA bB hkS.out hX.out hbw hSS.out
            replace V := hid V
            replace hNA := hid hNA
            replace hkA := hid hkA
            replace bB := hid bB
            replace hfin := hid hfin
            go_wp2_with fail
            have hPN : PN base gd gl on _ (b + 1) := ⟨_, _, _, _, _, _, _, _, _, _, _, _, _, _, _, _, hfin.out.1, by omega, by omega⟩
            exact hN.out _ _ _ _ _ _ _ _ _ _ _ _ _ _ _ _ _ _ _ _ _ _ _ _ _ _ _ _ _ _ _ _ _ _ _ _ _ _ _ _ _ _ _ _ _ _ _ _ _ _ _ _ _ _ _ _ _ _ _ _ _ _ _ _ _ _ _ _ _ _ _ _ _ _ _ _ _ _ _ _ _ _ _ _ _ _ _ _ _ _ _ _ _ _ _ _ _ _ _ _ _ _ _ _ _ _ _ _ _ _ _ _ _ _ _ _ _ _ _ _ _ _ _ _ _ _ _ _ _ _ _ _ _ _ _ _ _ _ _ _ _ _ _ _ _ _ _ _ _ _ _ _ _ _ _ _ _ _ _ _ _ _ _ _ _ _ _ _ _ _ _ _ _ _ _ _ hPN hfin.out.2
          · skip
            have hlag : lagOf 14 11 [8, 9] bb = #[true, true, true, true, true, true, true, true, false, true, true, false, false, false] := by rw [show lagOf 14 11 [8, 9] bb = #[true, true, true, true, true, true, true, true, bb 8, bb 9, true, false, false, false] from rfl, hb8, hb9]
            obtain q204 := (hval 9 _ 204 (fun _ => hb9) rfl rfl).out rfl
            have h204 := (congrFun hf 204).trans q204
            change wpAny Try.prog .any _ _ (14 - (lagOf 14 11 [8, 9] bb).toList.count true) (lagOf 14 11 [8, 9] bb) _ _
            rw [hlag]
            clear hlag hdf hsz hkp hval hfa hf
            simp only [fillAll, List.take, List.set_cons_zero, List.set_cons_succ, h195, h202, h29, h204]
            clear h195 h202 h29 h204 q195 q202 q29 q204 hb8 hb9
            have hz40' : wB.heap[g40]? = some (.cells #[.slice none 0 0, .int .i64 0] 40 (0, 0)) := hz40
            have y0 : wB.cell? ⟨g40, 0, none⟩ = some (.slice none 0 0) := by simp [World.cell?, hz40']
            have y1 : wB.cell? ⟨g40, 1, none⟩ = some (.int .i64 0) := by simp [World.cell?, hz40']
            have u0 : wB.frozen? ⟨g40, 0, none⟩ = false := by simp [World.frozen?, hz40']
            have u1 : wB.frozen? ⟨g40, 1, none⟩ = false := by simp [World.frozen?, hz40']
            have hzz : ∀ k, k = g40 → ZB wB k ∧ wA.heap.size ≤ k := fun k e => by subst e; exact ⟨.inl hz40', hg40⟩
            have hkS := two_cells wB g40 (.slice a1 n1 c1) (.int .i64 (last1 : Int))
            have hSS := hid (hS.news hkS hzz (fun q hq x hx => hNA.bodies.lt q hq x hx) hNA.lt hNA.own.lt)
            have hrb := two_r hz40' (.slice a1 n1 c1) (.int .i64 (last1 : Int))
            have hglB : ¬ gl = g40 := fun e => by have h1 := V.llt; have h3 := hkA.size; omega
            have hglS := hkS.block gl (by have h1 := V.llt; have h3 := hkA.size; have h4 := bB.size; omega) hglB
            rw [bB.block gl (by have h1 := V.llt; have h3 := hkA.size; omega), V.gla hkA] at hglS
            have hX : ∀ k, k = g40 → w.heap.size ≤ k := fun k e => Nat.le_trans hkA.size (hzz k e).2
            have hgg : gl < wB.heap.size ∧ g40 < wB.heap.size := ⟨by have h1 := V.llt; have h3 := hkA.size; have h4 := bB.size; omega, hl40⟩
            replace hS := hid hS
            replace hz40 := hid hz40
            replace hz40' := hid hz40'
            replace hzz := hid hzz
            replace hkS := hid hkS
            replace hrb := hid hrb
            replace hglS := hid hglS
            replace hX := hid hX
            replace hglB := hid hglB
            replace V := hid V
            replace hNA := hid hNA
            replace hkA := hid hkA
            replace bB := hid bB
            try clear kR
            change wpAny Try.prog .any _ _ (3 + 1) _ _ _
            refine wpAny_take (i := 8) (v := .int .i64 num) rfl (by kernel_rfl) (by kernel_rfl) (by kernel_rfl) (fun _ _ _ h => h) (Or.inl ⟨by rfl, ?_⟩) ?_
            · intro w
              go_simp
            change wpAny Try.prog .any _ _ (2 + 1) _ _ _
            refine wpAny_ready (rs := [11]) (by kernel_rfl) (by simp) ?_
            refine AllReady.cons rfl (fun K hK => ?_) AllReady.nil
            go_simp
            refine hK _ _ ?_
            clear hK K
            change wpAny Try.prog .any _ _ (1 + 1) _ _ _
            refine wpAny_ready (rs := [12]) (by kernel_rfl) (by simp) ?_
            refine AllReady.cons rfl (fun K hK => ?_) AllReady.nil
            go_simp
            refine hK _ _ ?_
            clear hK K
            change wpAny Try.prog .any _ _ (0 + 1) _ _ _
            refine wpAny_ready (rs := [13]) (by kernel_rfl) (by simp) ?_
            refine AllReady.cons rfl (fun K hK => ?_) AllReady.nil
            go_simp
            refine hK _ _ ?_
            clear hK K
            refine wpAny_done (by kernel_rfl) ?_ _
            replace V := V.out
            replace hNA := hNA.out
            replace hkA := hkA.out
            replace bB := bB.out
            clear y0 y1 u0 u1
            generalize (wB.setCell ⟨g40, 0, none⟩ (.slice a1 n1 c1)).setCell ⟨g40, 1, none⟩ (.int .i64 (last1 : Int)) = wS at *
            have r0 := hrb.out.cell0
            have r1 := hrb.out.cell1
            have l0 := (lcell hglS.out hon).1
            have l1 := (lcell hglS.out hon).2.1
            have k0 := (lcell hglS.out hon).2.2.1
            have k1 := (lcell hglS.out hon).2.2.2
            have hfin := V.fin hkA bB hkS.out hX.out hbw hSS.out
            replace V := hid V
            replace hNA := hid hNA
            replace hkA := hid hkA
            replace bB := hid bB
            replace hfin := hid hfin
            go_wp2_with fail
            have hPN : PN base gd gl on _ (b + 1) := ⟨_, _, _, _, _, _, _, _, _, _, _, _, _, _, _, _, hfin.out.1, by omega, by omega⟩
            exact hN.out _ _ _ _ _ _ _ _ _ _ _ _ _ _ _ _ _ _ _ _ _ _ _ _ _ _ _ _ _ _ _ _ _ _ _ _ _ _ _ _ _ _ _ _ _ _ _ _ _ _ _ _ _ _ _ _ _ _ _ _ _ _ _ _ _ _ _ _ _ _ _ _ _ _ _ _ _ _ _ _ _ _ _ _ _ _ _ _ _ _ _ _ _ _ _ _ _ _ _ _ _ _ _ _ _ _ _ _ _ _ _ _ _ _ _ _ _ _ _ _ _ _ _ _ _ _ _ _ _ _ _ _ _ _ _ _ _ _ _ _ _ _ _ _ _ _ _ _ _ _ _ _ _ _ _ _ _ _ _ _ _ _ _ _ _ _ _ _ _ _ _ _ _ _ _ _ hPN hfin.out.2
        · skip
          cases hb9 : bb 9
          · skip
            have hlag : lagOf 14 11 [8, 9] bb = #[true, true, true, true, true, true, true, true, true, false, true, false, false, false] := by rw [show lagOf 14 11 [8, 9] bb = #[true, true, true, true, true, true, true, true, bb 8, bb 9, true, false, false, false] from rfl, hb8, hb9]
            obtain q203 := (hval 8 _ 203 (fun _ => hb8) rfl rfl).out rfl
            have h203 := (congrFun hf 203).trans q203
            change wpAny Try.prog .any _ _ (14 - (lagOf 14 11 [8, 9] bb).toList.count true) (lagOf 14 11 [8, 9] bb) _ _
            rw [hlag]
            clear hlag hdf hsz hkp hval hfa hf
            simp only [fillAll, List.take, List.set_cons_zero, List.set_cons_succ, h195, h202, h29, h203]
            clear h195 h202 h29 h203 q195 q202 q29 q203 hb8 hb9
            have hz40' : wB.heap[g40]? = some (.cells #[.slice none 0 0, .int .i64 0] 40 (0, 0)) := hz40
            have y0 : wB.cell? ⟨g40, 0, none⟩ = some (.slice none 0 0) := by simp [World.cell?, hz40']
            have y1 : wB.cell? ⟨g40, 1, none⟩ = some (.int .i64 0) := by simp [World.cell?, hz40']
            have u0 : wB.frozen? ⟨g40, 0, none⟩ = false := by simp [World.frozen?, hz40']
            have u1 : wB.frozen? ⟨g40, 1, none⟩ = false := by simp [World.frozen?, hz40']
            have hzz : ∀ k, k = g40 → ZB wB k ∧ wA.heap.size ≤ k := fun k e => by subst e; exact ⟨.inl hz40', hg40⟩
            have hkS := two_cells wB g40 (.slice a1 n1 c1) (.int .i64 (last1 : Int))
            have hSS := hid (hS.news hkS hzz (fun q hq x hx => hNA.bodies.lt q hq x hx) hNA.lt hNA.own.lt)
            have hrb := two_r hz40' (.slice a1 n1 c1) (.int .i64 (last1 : Int))
            have hglB : ¬ gl = g40 := fun e => by have h1 := V.llt; have h3 := hkA.size; omega
            have hglS := hkS.block gl (by have h1 := V.llt; have h3 := hkA.size; have h4 := bB.size; omega) hglB
            rw [bB.block gl (by have h1 := V.llt; have h3 := hkA.size; omega), V.gla hkA] at hglS
            have hX : ∀ k, k = g40 → w.heap.size ≤ k := fun k e => Nat.le_trans hkA.size (hzz k e).2
            have hgg : gl < wB.heap.size ∧ g40 < wB.heap.size := ⟨by have h1 := V.llt; have h3 := hkA.size; have h4 := bB.size; omega, hl40⟩
            replace hS := hid hS
            replace hz40 := hid hz40
            replace hz40' := hid hz40'
            replace hzz := hid hzz
            replace hkS := hid hkS
            replace hrb := hid hrb
            replace hglS := hid hglS
            replace hX := hid hX
            replace hglB := hid hglB
            replace V := hid V
            replace hNA := hid hNA
            replace hkA := hid hkA
            replace bB := hid bB
            try clear kR
            change wpAny Try.prog .any _ _ (3 + 1) _ _ _
            refine wpAny_take (i := 9) (v := .int .i64 ec) rfl (by kernel_rfl) (by kernel_rfl) (by kernel_rfl) (fun _ _ _ h => h) (Or.inl ⟨by rfl, ?_⟩) ?_
            · intro w
              go_simp
            change wpAny Try.prog .any _ _ (2 + 1) _ _ _
            refine wpAny_ready (rs := [11]) (by kernel_rfl) (by simp) ?_
            refine AllReady.cons rfl (fun K hK => ?_) AllReady.nil
            go_simp
            refine hK _ _ ?_
            clear hK K
            change wpAny Try.prog .any _ _ (1 + 1) _ _ _
            refine wpAny_ready (rs := [12]) (by kernel_rfl) (by simp) ?_
            refine AllReady.cons rfl (fun K hK => ?_) AllReady.nil
            go_simp
            refine hK _ _ ?_
            clear hK K
            change wpAny Try.prog .any _ _ (0 + 1) _ _ _
            refine wpAny_ready (rs := [13]) (by kernel_rfl) (by simp) ?_
            refine AllReady.cons rfl (fun K hK => ?_) AllReady.nil
            go_simp
            refine hK _ _ ?_
            clear hK K
            refine wpAny_done (by kernel_rfl) ?_ _
            replace V := V.out
            replace hNA := hNA.out
            replace hkA := hkA.out
            replace bB := bB.out
            clear y0 y1 u0 u1
            generalize (wB.setCell ⟨g40, 0, none⟩ (.slice a1 n1 c1)).setCell ⟨g40, 1, none⟩ (.int .i64 (last1 : Int)) = wS at *
            have r0 := hrb.out.cell0
            have r1 := hrb.out.cell1
            have l0 := (lcell hglS.out hon).1
            have l1 := (lcell hglS.out hon).2.1
            have k0 := (lcell hglS.out hon).2.2.1
            have k1 := (lcell hglS.out hon).2.2.2
            have hfin := V.fin hkA bB hkS.out hX.out hbw hSS.out
            replace V := hid V
            replace hNA := hid hNA
            replace hkA := hid hkA
            replace bB := hid bB
            replace hfin := hid hfin
            go_wp2_with fail
            have hPN : PN base gd gl on _ (b + 1) := ⟨_, _, _, _, _, _, _, _, _, _, _, _, _, _, _, _, hfin.out.1, by omega, by omega⟩
            exact hN.out _ _ _ _ _ _ _ _ _ _ _ _ _ _ _ _ _ _ _ _ _ _ _ _ _ _ _ _ _ _ _ _ _ _ _ _ _ _ _ _ _ _ _ _ _ _ _ _ _ _ _ _ _ _ _ _ _ _ _ _ _ _ _ _ _ _ _ _ _ _ _ _ _ _ _ _ _ _ _ _ _ _ _ _ _ _ _ _ _ _ _ _ _ _ _ _ _ _ _ _ _ _ _ _ _ _ _ _ _ _ _ _ _ _ _ _ _ _ _ _ _ _ _ _ _ _ _ _ _ _ _ _ _ _ _ _ _ _ _ _ _ _ _ _ _ _ _ _ _ _ _ _ _ _ _ _ _ _ _ _ _ _ _ _ _ _ _ _ _ _ _ _ _ _ _ _ hPN hfin.out.2
          · skip
            have hlag : lagOf 14 11 [8, 9] bb = #[true, true, true, true, true, true, true, true, true, true, true, false, false, false] := by rw [show lagOf 14 11 [8, 9] bb = #[true, true, true, true, true, true, true, true, bb 8, bb 9, true, false, false, false] from rfl, hb8, hb9]
            obtain q203 := (hval 8 _ 203 (fun _ => hb8) rfl rfl).out rfl
            have h203 := (congrFun hf 203).trans q203
            obtain q204 := (hval 9 _ 204 (fun _ => hb9) rfl rfl).out rfl
            have h204 := (congrFun hf 204).trans q204
            change wpAny Try.prog .any _ _ (14 - (lagOf 14 11 [8, 9] bb).toList.count true) (lagOf 14 11 [8, 9] bb) _ _
            rw [hlag]
            clear hlag hdf hsz hkp hval hfa hf
            simp only [fillAll, List.take, List.set_cons_zero, List.set_cons_succ, h195, h202, h29, h203, h204]
            clear h195 h202 h29 h203 h204 q195 q202 q29 q203 q204 hb8 hb9
            have hz40' : wB.heap[g40]? = some (.cells #[.slice none 0 0, .int .i64 0] 40 (0, 0)) := hz40
            have y0 : wB.cell? ⟨g40, 0, none⟩ = some (.slice none 0 0) := by simp [World.cell?, hz40']
            have y1 : wB.cell? ⟨g40, 1, none⟩ = some (.int .i64 0) := by simp [World.cell?, hz40']
            have u0 : wB.frozen? ⟨g40, 0, none⟩ = false := by simp [World.frozen?, hz40']
            have u1 : wB.frozen? ⟨g40, 1, none⟩ = false := by simp [World.frozen?, hz40']
            have hzz : ∀ k, k = g40 → ZB wB k ∧ wA.heap.size ≤ k := fun k e => by subst e; exact ⟨.inl hz40', hg40⟩
            have hkS := two_cells wB g40 (.slice a1 n1 c1) (.int .i64 (last1 : Int))
            have hSS := hid (hS.news hkS hzz (fun q hq x hx => hNA.bodies.lt q hq x hx) hNA.lt hNA.own.lt)
            have hrb := two_r hz40' (.slice a1 n1 c1) (.int .i64 (last1 : Int))
            have hglB : ¬ gl = g40 := fun e => by have h1 := V.llt; have h3 := hkA.size; omega
            have hglS := hkS.block gl (by have h1 := V.llt; have h3 := hkA.size; have h4 := bB.size; omega) hglB
            rw [bB.block gl (by have h1 := V.llt; have h3 := hkA.size; omega), V.gla hkA] at hglS
            have hX : ∀ k, k = g40 → w.heap.size ≤ k := fun k e => Nat.le_trans hkA.size (hzz k e).2
            have hgg : gl < wB.heap.size ∧ g40 < wB.heap.size := ⟨by have h1 := V.llt; have h3 := hkA.size; have h4 := bB.size; omega, hl40⟩
            replace hS := hid hS
            replace hz40 := hid hz40
            replace hz40' := hid hz40'
            replace hzz := hid hzz
            replace hkS := hid hkS
            replace hrb := hid hrb
            replace hglS := hid hglS
            replace hX := hid hX
            replace hglB := hid hglB
            replace V := hid V
            replace hNA := hid hNA
            replace hkA := hid hkA
            replace bB := hid bB
            try clear kR
            change wpAny Try.prog .any _ _ (2 + 1) _ _ _
            refine wpAny_ready (rs := [11]) (by kernel_rfl) (by simp) ?_
            refine AllReady.cons rfl (fun K hK => ?_) AllReady.nil
            go_simp
            refine hK _ _ ?_
            clear hK K
            change wpAny Try.prog .any _ _ (1 + 1) _ _ _
            refine wpAny_ready (rs := [12]) (by kernel_rfl) (by simp) ?_
            refine AllReady.cons rfl (fun K hK => ?_) AllReady.nil
            go_simp
            refine hK _ _ ?_
            clear hK K
            change wpAny Try.prog .any _ _ (0 + 1) _ _ _
            refine wpAny_ready (rs := [13]) (by kernel_rfl) (by simp) ?_
            refine AllReady.cons rfl (fun K hK => ?_) AllReady.nil
            go_simp
            refine hK _ _ ?_
            clear hK K
            refine wpAny_done (by kernel_rfl) ?_ _
            replace V := V.out
            replace hNA := hNA.out
            replace hkA := hkA.out
            replace bB := bB.out
            clear y0 y1 u0 u1
            generalize (wB.setCell ⟨g40, 0, none⟩ (.slice a1 n1 c1)).setCell ⟨g40, 1, none⟩ (.int .i64 (last1 : Int)) = wS at *
            have r0 := hrb.out.cell0
            have r1 := hrb.out.cell1
            have l0 := (lcell hglS.out hon).1
            have l1 := (lcell hglS.out hon).2.1
            have k0 := (lcell hglS.out hon).2.2.1
            have k1 := (lcell hglS.out hon).2.2.2
            have hfin := V.fin hkA bB hkS.out hX.out hbw hSS.out
            replace V := hid V
            replace hNA := hid hNA
            replace hkA := hid hkA
            replace bB := hid bB
            replace hfin := hid hfin
            go_wp2_with fail
            have hPN : PN base gd gl on _ (b + 1) := ⟨_, _, _, _, _, _, _, _, _, _, _, _, _, _, _, _, hfin.out.1, by omega, by omega⟩
            exact hN.out _ _ _ _ _ _ _ _ _ _ _ _ _ _ _ _ _ _ _ _ _ _ _ _ _ _ _ _ _ _ _ _ _ _ _ _ _ _ _ _ _ _ _ _ _ _ _ _ _ _ _ _ _ _ _ _ _ _ _ _ _ _ _ _ _ _ _ _ _ _ _ _ _ _ _ _ _ _ _ _ _ _ _ _ _ _ _ _ _ _ _ _ _ _ _ _ _ _ _ _ _ _ _ _ _ _ _ _ _ _ _ _ _ _ _ _ _ _ _ _ _ _ _ _ _ _ _ _ _ _ _ _ _ _ _ _ _ _ _ _ _ _ _ _ _ _ _ _ _ _ _ _ _ _ _ _ _ _ _ _ _ _ _ _ _ _ _ _ _ _ _ _ _ _ _ _ hPN hfin.out.2
    · skip
      have hlag : lagOf 11 9 [8] bb = #[true, true, true, true, true, true, true, true, true, false, false] := by rw [show lagOf 11 9 [8] bb = #[true, true, true, true, true, true, true, true, bb 8, false, false] from rfl, hb8]
      have q194 : ac.tmps.getD 194 undef = (.int .i64 ec : Value) := (hval 8 _ 194 (fun _ => hb8) rfl rfl).val rfl
      have h194 := (congrFun hf 194).trans q194
      change wpAny Try.prog .any _ _ (11 - (lagOf 11 9 [8] bb).toList.count true) (lagOf 11 9 [8] bb) _ _
      rw [hlag]
      clear hlag hdf hsz hkp hval hfa hf
      simp only [fillAll, List.take, List.set_cons_zero, List.set_cons_succ, h192, h186, h193, h194]
      clear h192 h186 h193 h194 q192 q186 q193 q194 hb8
      obtain ⟨hNA, hkA⟩ := hAf
      clear kD
      replace V := hid V
      replace hNA := hid hNA
      replace hkA := hid hkA
      change wpAny Try.prog .any _ _ (1 + 1) _ _ _
      refine wpAny_ready (rs := [9]) (by kernel_rfl) (by simp) ?_
      refine AllReady.cons rfl (fun K hK => ?_) AllReady.nil
      go_simp
      refine hK _ _ ?_
      clear hK K
      change wpAny Try.prog .any _ _ (0 + 1) _ _ _
      refine wpAny_ready (rs := [10]) (by kernel_rfl) (by simp) ?_
      refine AllReady.cons rfl (fun K hK => ?_) AllReady.nil
      go_simp
      refine hK _ _ ?_
      clear hK K
      refine wpAny_done (by kernel_rfl) ?_ _
      go_wp2_with fail
      replace V := V.out
      replace hNA := hNA.out
      replace hkA := hkA.out
      replace kR := kR.out
      refine wp_region_lag 11 [8, 9] (Bf := (fun w' => Below wA.heap.size wA w')) (Af := (fun w' => Below wA.heap.size wA w')) (C := 5) (Pr := PrV (pv34 gl on n c last g9 a k) [5, 6, 7, 8, 9, 10] (R22 5 (T6 p m p' m' gd gl) (fun _ _ => True) wA.heap.size p m L1 last1 num ec)) (by kernel_rfl) (by kernel_rfl) (by decide) (by decide) (by decide) (drew_below _) ?_ (by kernel_rfl) ?_
      · refine ⟨?_, ?_, ?_, ?_, ?_, ?_, ?_, ?_, ?_, ?_, ?_, trivial⟩
        · exact fun ac w hC hBA hd hk K hK => yes (want_n rfl) (wp_mv _ rfl _ (get_keep (hk 10 (no_dst (by kernel_rfl))) rfl) (hK _ w (PrV.is rfl rfl) (fun e => absurd e (by decide)) (fun _ => ⟨id, id⟩) (fun _ _ _ h => h)))
        · intro ac w hC hBA hd hk K hK
          have e6 : ac.tmps[6]?.getD undef = (.pointer (some ⟨gl, 0, none⟩) : Value) := slot (get_keep (hk 6 (no_dst (by kernel_rfl))) rfl)
          have e196 : ac.tmps[196]?.getD undef = (.int .i64 (on : Int) : Value) := slot ((hd 0 _ 196 rfl rfl rfl).val rfl)
          refine yes (want_n rfl) ?_
          have hv := hid (hK (.pointer (some ⟨gl, on * 2, none⟩)) w (PrV.is rfl rfl) (fun e => absurd e (by decide)) (fun _ => ⟨id, id⟩) (fun _ _ _ h => h))
          clear hK hC hBA hd hk
          go_simp
          refine kq hv.out ?_
          rfl
        · intro ac w hC hBA hd hk K hK
          have e197 : ac.tmps[197]?.getD undef = (.pointer (some ⟨gl, on * 2, none⟩) : Value) := slot ((hd 1 _ 197 rfl rfl rfl).val rfl)
          have x := V.lk (hkA.then (hBA.elim id id))
          have x0 := x.1
          have x1 := x.2
          clear x
          refine yes (want_n rfl) ?_
          have hv := hid (hK (.agg #[.slice a n c, .int .i64 (last : Int)]) w (PrV.is rfl rfl) (fun e => absurd e (by decide)) (fun _ => ⟨id, id⟩) (fun _ _ _ h => h))
          clear hK hC hBA hd hk
          go_simp
          refine kq hv.out ?_
          rfl
        · intro ac w hC hBA hd hk K hK
          have e9 : ac.tmps[9]?.getD undef = (.pointer (some ⟨g9, 0, none⟩) : Value) := slot (get_keep (hk 9 (no_dst (by kernel_rfl))) rfl)
          refine yes (want_n rfl) ?_
          have hv := hid (hK (.pointer (some ⟨g9, 5, none⟩)) w (PrV.is rfl rfl) (fun e => absurd e (by decide)) (fun _ => ⟨id, id⟩) (fun _ _ _ h => h))
          clear hK hC hBA hd hk
          go_simp
          refine kq hv.out ?_
          rfl
        · intro ac w hC hBA hd hk K hK
          have e199 : ac.tmps[199]?.getD undef = (.pointer (some ⟨g9, 5, none⟩) : Value) := slot ((hd 3 _ 199 rfl rfl rfl).val rfl)
          have x0 := (h9.out.kt hT9 (hkA.then (hBA.elim id id))).cells.2.2.2
          refine yes (want_n rfl) ?_
          have hv := hid (hK (.int .i64 k) w (PrV.is rfl rfl) (fun e => absurd e (by decide)) (fun _ => ⟨id, id⟩) (fun _ _ _ h => h))
          clear hK hC hBA hd hk
          go_simp
          refine kq hv.out ?_
          rfl
        · intro ac w hC hBA hd hk K hK
          refine yes (want_n rfl) ?_
          refine wp_callv 22 _ _ rfl _ Try.func22 rfl rfl _ (args2 ((hd 2 _ 198 rfl rfl rfl).val rfl) ((hd 4 _ 200 rfl rfl rfl).val rfl)) (kR w (hNA.below (hC rfl)) (hkA.then (hC rfl))) ?_
          rintro e w' ⟨a1, n1, c1, R1, rfl, hS, hOf, hbw⟩
          exact ⟨_, rfl, hK _ w' (PrV.by rfl ⟨a1, n1, c1, R1, rfl, hS, trivial⟩) (fun _ => bnext (hC rfl) hbw) (fun h => absurd rfl h) (fun j u hj h => PrV.mono2 (R22.below hbw) h)⟩
        · intro ac w hC hBA hd hk K hK
          obtain ⟨a1, n1, c1, R1, e1, hS, hOf⟩ := ((hd 5 _ 201 rfl rfl rfl).out rfl)
          exact yes (want_n rfl) (wp_mv _ rfl _ e1 (hK _ w (PrV.by rfl ⟨a1, n1, c1, R1, rfl, hS, hOf⟩) (fun e => absurd e (by decide)) (fun _ => ⟨id, id⟩) (fun _ _ _ h => h)))
        · intro ac w hC hBA hd hk K hK
          obtain ⟨a1, n1, c1, R1, e1, hS, hOf⟩ := ((hd 6 _ 195 rfl rfl rfl).out rfl)
          have e2 := slot e1
          refine yes (want_n rfl) ?_
          have hv := hid (hK (.agg #[.slice a1 n1 c1, .int .i64 (last1 : Int)]) w (PrV.by rfl ⟨a1, n1, c1, R1, rfl, hS, hOf⟩) (fun e => absurd e (by decide)) (fun _ => ⟨id, id⟩) (fun _ _ _ h => h))
          clear hK hC hBA hd hk hS
          go_simp
          exact hv.out
        · intro ac w hC hBA hd hk K hK
          obtain ⟨a1, n1, c1, R1, e1, hS, hOf⟩ := ((hd 6 _ 195 rfl rfl rfl).out rfl)
          have e2 := slot e1
          refine yes (want_n rfl) ?_
          have hv := hid (hK (.int .i64 num) w (PrV.by rfl rfl) (fun e => absurd e (by decide)) (fun _ => ⟨id, id⟩) (fun _ _ _ h => h))
          clear hK hC hBA hd hk hS
          go_simp
          exact hv.out
        · intro ac w hC hBA hd hk K hK
          obtain ⟨a1, n1, c1, R1, e1, hS, hOf⟩ := ((hd 6 _ 195 rfl rfl rfl).out rfl)
          have e2 := slot e1
          refine yes (want_n rfl) ?_
          have hv := hid (hK (.int .i64 ec) w (PrV.by rfl rfl) (fun e => absurd e (by decide)) (fun _ => ⟨id, id⟩) (fun _ _ _ h => h))
          clear hK hC hBA hd hk hS
          go_simp
          exact hv.out
        · intro ac w hC hBA hd hk K hK
          have hbl := below_lit w (.cells z40 40)
          have hsz := (hBA.elim id id : Below wA.heap.size wA w).size
          have hv := hid (hK (.pointer (some ⟨w.heap.size, 0, none⟩)) (w.alloc (.cells z40 40)) (PrV.by rfl ⟨w.heap.size, rfl, hsz, by rw [World.size_alloc]; omega, heap_alloc_new w _⟩) (fun e => absurd e (by decide)) (fun _ => ⟨fun h => bnext h hbl, fun h => bnext h hbl⟩) (fun j u hj h => PrV.mono2 (R22.below hbl) h))
          refine yes (want_n rfl) ?_
          clear hK hC hBA hd hk
          go_simp
          exact hv.out
      · intro bb ac wB hdf hsz hkp hval bB
        obtain ⟨_, _, _, _, q195, _, _⟩ := (hval 6 _ 195 (fun h => absurd h (by decide)) rfl rfl).out rfl
        obtain ⟨a1, n1, c1, R1, q202, hS, hOf⟩ := (hval 7 _ 202 (fun h => absurd h (by decide)) rfl rfl).out rfl
        obtain ⟨g40, q29, hg40, hl40, hz40⟩ := (hval 10 _ 29 (fun h => absurd h (by decide)) rfl rfl).out rfl
        obtain ⟨f, hf⟩ : ∃ f, f = fun d => ac.tmps.getD d undef := ⟨_, rfl⟩
        have h195 := (congrFun hf 195).trans q195
        have h202 := (congrFun hf 202).trans q202
        have h29 := (congrFun hf 29).trans q29
        have hfa := act_filled hdf hsz hkp
        rw [← hf] at hfa
        rw [hfa]
        cases hb8 : bb 8
        · skip
          cases hb9 : bb 9
          · skip
            have hlag : lagOf 14 11 [8, 9] bb = #[true, true, true, true, true, true, true, true, false, false, true, false, false, false] := by rw [show lagOf 14 11 [8, 9] bb = #[true, true, true, true, true, true, true, true, bb 8, bb 9, true, false, false, false] from rfl, hb8, hb9]
            change wpAny Try.prog .any _ _ (14 - (lagOf 14 11 [8, 9] bb).toList.count true) (lagOf 14 11 [8, 9] bb) _ _
            rw [hlag]
            clear hlag hdf hsz hkp hval hfa hf
            simp only [fillAll, List.take, List.set_cons_zero, List.set_cons_succ, h195, h202, h29]
            clear h195 h202 h29 q195 q202 q29 hb8 hb9
            have hz40' : wB.heap[g40]? = some (.cells #[.slice none 0 0, .int .i64 0] 40 (0, 0)) := hz40
            have y0 : wB.cell? ⟨g40, 0, none⟩ = some (.slice none 0 0) := by simp [World.cell?, hz40']
            have y1 : wB.cell? ⟨g40, 1, none⟩ = some (.int .i64 0) := by simp [World.cell?, hz40']
            have u0 : wB.frozen? ⟨g40, 0, none⟩ = false := by simp [World.frozen?, hz40']
            have u1 : wB.frozen? ⟨g40, 1, none⟩ = false := by simp [World.frozen?, hz40']
            have hzz : ∀ k, k = g40 → ZB wB k ∧ wA.heap.size ≤ k := fun k e => by subst e; exact ⟨.inl hz40', hg40⟩
            have hkS := two_cells wB g40 (.slice a1 n1 c1) (.int .i64 (last1 : Int))
            have hSS := hid (hS.news hkS hzz (fun q hq x hx => hNA.bodies.lt q hq x hx) hNA.lt hNA.own.lt)
            have hrb := two_r hz40' (.slice a1 n1 c1) (.int .i64 (last1 : Int))
            have hglB : ¬ gl = g40 := fun e => by have h1 := V.llt; have h3 := hkA.size; omega
            have hglS := hkS.block gl (by have h1 := V.llt; have h3 := hkA.size; have h4 := bB.size; omega) hglB
            rw [bB.block gl (by have h1 := V.llt; have h3 := hkA.size; omega), V.gla hkA] at hglS
            have hX : ∀ k, k = g40 → w.heap.size ≤ k := fun k e => Nat.le_trans hkA.size (hzz k e).2
            have hgg : gl < wB.heap.size ∧ g40 < wB.heap.size := ⟨by have h1 := V.llt; have h3 := hkA.size; have h4 := bB.size; omega, hl40⟩
            replace hS := hid hS
            replace hz40 := hid hz40
            replace hz40' := hid hz40'
            replace hzz := hid hzz
            replace hkS := hid hkS
            replace hrb := hid hrb
            replace hglS := hid hglS
            replace hX := hid hX
            replace hglB := hid hglB
            replace V := hid V
            replace hNA := hid hNA
            replace hkA := hid hkA
            replace bB := hid bB
            try clear kR
            change wpAny Try.prog .any _ _ (4 + 1) _ _ _
            refine wpAny_take (i := 8) (v := .int .i64 num) rfl (by kernel_rfl) (by kernel_rfl) (by kernel_rfl) (fun _ _ _ h => h) (Or.inl ⟨by rfl, ?_⟩) ?_
            · intro w
              go_simp
            change wpAny Try.prog .any _ _ (3 + 1) _ _ _
            refine wpAny_take (i := 9) (v := .int .i64 ec) rfl (by kernel_rfl) (by kernel_rfl) (by kernel_rfl) (fun _ _ _ h => h) (Or.inl ⟨by rfl, ?_⟩) ?_
            · intro w
              go_simp
            change wpAny Try.prog .any _ _ (2 + 1) _ _ _
            refine wpAny_ready (rs := [11]) (by kernel_rfl) (by simp) ?_
            refine AllReady.cons rfl (fun K hK => ?_) AllReady.nil
            go_simp
            refine hK _ _ ?_
            clear hK K
            change wpAny Try.prog .any _ _ (1 + 1) _ _ _
            refine wpAny_ready (rs := [12]) (by kernel_rfl) (by simp) ?_
            refine AllReady.cons rfl (fun K hK => ?_) AllReady.nil
            go_simp
            refine hK _ _ ?_
            clear hK K
            change wpAny Try.prog .any _ _ (0 + 1) _ _ _
            refine wpAny_ready (rs := [13]) (by kernel_rfl) (by simp) ?_
            refine AllReady.cons rfl (fun K hK => ?_) AllReady.nil
            go_simp
            refine hK _ _ ?_
            clear hK K
            refine wpAny_done (by kernel_rfl) ?_ _
            replace V := V.out
            replace hNA := hNA.out
            replace hkA := hkA.out
            replace bB := bB.out
            clear y0 y1 u0 u1
            generalize (wB.setCell ⟨g40, 0, none⟩ (.slice a1 n1 c1)).setCell ⟨g40, 1, none⟩ (.int .i64 (last1 : Int)) = wS at *
            have r0 := hrb.out.cell0
            have r1 := hrb.out.cell1
            have l0 := (lcell hglS.out hon).1
            have l1 := (lcell hglS.out hon).2.1
            have k0 := (lcell hglS.out hon).2.2.1
            have k1 := (lcell hglS.out hon).2.2.2
            have hfin := V.fin hkA bB hkS.out hX.out hbw hSS.out
            replace V := hid V
            replace hNA := hid hNA
            replace hkA := hid hkA
            replace bB := hid bB
            replace hfin := hid hfin
            go_wp2_with fail
            have hPN : PN base gd gl on _ (b + 1) := ⟨_, _, _, _, _, _, _, _, _, _, _, _, _, _, _, _, hfin.out.1, by omega, by omega⟩
            exact hN.out _ _ _ _ _ _ _ _ _ _ _ _ _ _ _ _ _ _ _ _ _ _ _ _ _ _ _ _ _ _ _ _ _ _ _ _ _ _ _ _ _ _ _ _ _ _ _ _ _ _ _ _ _ _ _ _ _ _ _ _ _ _ _ _ _ _ _ _ _ _ _ _ _ _ _ _ _ _ _ _ _ _ _ _ _ _ _ _ _ _ _ _ _ _ _ _ _ _ _ _ _ _ _ _ _ _ _ _ _ _ _ _ _ _ _ _ _ _ _ _ _ _ _ _ _ _ _ _ _ _ _ _ _ _ _ _ _ _ _ _ _ _ _ _ _ _ _ _ _ _ _ _ _ _ _ _ _ _ _ _ _ _ _ _ _ _ _ _ _ _ _ _ _ _ _ _ hPN hfin.out.2
          · skip
            have hlag : lagOf 14 11 [8, 9] bb = #[true, true, true, true, true, true, true, true, false, true, true, false, false, false] := by rw [show lagOf 14 11 [8, 9] bb = #[true, true, true, true, true, true, true, true, bb 8, bb 9, true, false, false, false] from rfl, hb8, hb9]
            obtain q204 := (hval 9 _ 204 (fun _ => hb9) rfl rfl).out rfl
            have h204 := (congrFun hf 204).trans q204
            change wpAny Try.prog .any _ _ (14 - (lagOf 14 11 [8, 9] bb).toList.count true) (lagOf 14 11 [8, 9] bb) _ _
            rw [hlag]
            clear hlag hdf hsz hkp hval hfa hf
            simp only [fillAll, List.take, List.set_cons_zero, List.set_cons_succ, h195, h202, h29, h204]
            clear h195 h202 h29 h204 q195 q202 q29 q204 hb8 hb9
            have hz40' : wB.heap[g40]? = some (.cells #[.slice none 0 0, .int .i64 0] 40 (0, 0)) := hz40
            have y0 : wB.cell? ⟨g40, 0, none⟩ = some (.slice none 0 0) := by simp [World.cell?, hz40']
            have y1 : wB.cell? ⟨g40, 1, none⟩ = some (.int .i64 0) := by simp [World.cell?, hz40']
            have u0 : wB.frozen? ⟨g40, 0, none⟩ = false := by simp [World.frozen?, hz40']
            have u1 : wB.frozen? ⟨g40, 1, none⟩ = false := by simp [World.frozen?, hz40']
            have hzz : ∀ k, k = g40 → ZB wB k ∧ wA.heap.size ≤ k := fun k e => by subst e; exact ⟨.inl hz40', hg40⟩
            have hkS := two_cells wB g40 (.slice a1 n1 c1) (.int .i64 (last1 : Int))
            have hSS := hid (hS.news hkS hzz (fun q hq x hx => hNA.bodies.lt q hq x hx) hNA.lt hNA.own.lt)
            have hrb := two_r hz40' (.slice a1 n1 c1) (.int .i64 (last1 : Int))
            have hglB : ¬ gl = g40 := fun e => by have h1 := V.llt; have h3 := hkA.size; omega
            have hglS := hkS.block gl (by have h1 := V.llt; have h3 := hkA.size; have h4 := bB.size; omega) hglB
            rw [bB.block gl (by have h1 := V.llt; have h3 := hkA.size; omega), V.gla hkA] at hglS
            have hX : ∀ k, k = g40 → w.heap.size ≤ k := fun k e => Nat.le_trans hkA.size (hzz k e).2
            have hgg : gl < wB.heap.size ∧ g40 < wB.heap.size := ⟨by have h1 := V.llt; have h3 := hkA.size; have h4 := bB.size; omega, hl40⟩
            replace hS := hid hS
            replace hz40 := hid hz40
            replace hz40' := hid hz40'
            replace hzz := hid hzz
            replace hkS := hid hkS
            replace hrb := hid hrb
            replace hglS := hid hglS
            replace hX := hid hX
            replace hglB := hid hglB
            replace V := hid V
            replace hNA := hid hNA
            replace hkA := hid hkA
            replace bB := hid bB
            try clear kR
            change wpAny Try.prog .any _ _ (3 + 1) _ _ _
            refine wpAny_take (i := 8) (v := .int .i64 num) rfl (by kernel_rfl) (by kernel_rfl) (by kernel_rfl) (fun _ _ _ h => h) (Or.inl ⟨by rfl, ?_⟩) ?_
            · intro w
              go_simp
            change wpAny Try.prog .any _ _ (2 + 1) _ _ _
            refine wpAny_ready (rs := [11]) (by kernel_rfl) (by simp) ?_
            refine AllReady.cons rfl (fun K hK => ?_) AllReady.nil
            go_simp
            refine hK _ _ ?_
            clear hK K
            change wpAny Try.prog .any _ _ (1 + 1) _ _ _
            refine wpAny_ready (rs := [12]) (by kernel_rfl) (by simp) ?_
            refine AllReady.cons rfl (fun K hK => ?_) AllReady.nil
            go_simp
            refine hK _ _ ?_
            clear hK K
            change wpAny Try.prog .any _ _ (0 + 1) _ _ _
            refine wpAny_ready (rs := [13]) (by kernel_rfl) (by simp) ?_
            refine AllReady.cons rfl (fun K hK => ?_) AllReady.nil
            go_simp
            refine hK _ _ ?_
            clear hK K
            refine wpAny_done (by kernel_rfl) ?_ _
            replace V := V.out
            replace hNA := hNA.out
            replace hkA := hkA.out
            replace bB := bB.out
            clear y0 y1 u0 u1
            generalize (wB.setCell ⟨g40, 0, none⟩ (.slice a1 n1 c1)).setCell ⟨g40, 1, none⟩ (.int .i64 (last1 : Int)) = wS at *
            have r0 := hrb.out.cell0
            have r1 := hrb.out.cell1
            have l0 := (lcell hglS.out hon).1
            have l1 := (lcell hglS.out hon).2.1
            have k0 := (lcell hglS.out hon).2.2.1
            have k1 := (lcell hglS.out hon).2.2.2
            have hfin := V.fin hkA bB hkS.out hX.out hbw hSS.out
            replace V := hid V
            replace hNA := hid hNA
            replace hkA := hid hkA
            replace bB := hid bB
            replace hfin := hid hfin
            go_wp2_with fail
            have hPN : PN base gd gl on _ (b + 1) := ⟨_, _, _, _, _, _, _, _, _, _, _, _, _, _, _, _, hfin.out.1, by omega, by omega⟩
            exact hN.out _ _ _ _ _ _ _ _ _ _ _ _ _ _ _ _ _ _ _ _ _ _ _ _ _ _ _ _ _ _ _ _ _ _ _ _ _ _ _ _ _ _ _ _ _ _ _ _ _ _ _ _ _ _ _ _ _ _ _ _ _ _ _ _ _ _ _ _ _ _ _ _ _ _ _ _ _ _ _ _ _ _ _ _ _ _ _ _ _ _ _ _ _ _ _ _ _ _ _ _ _ _ _ _ _ _ _ _ _ _ _ _ _ _ _ _ _ _ _ _ _ _ _ _ _ _ _ _ _ _ _ _ _ _ _ _ _ _ _ _ _ _ _ _ _ _ _ _ _ _ _ _ _ _ _ _ _ _ _ _ _ _ _ _ _ _ _ _ _ _ _ _ _ _ _ _ hPN hfin.out.2
        · skip
          cases hb9 : bb 9
          · skip
            have hlag : lagOf 14 11 [8, 9] bb = #[true, true, true, true, true, true, true, true, true, false, true, false, false, false] := by rw [show lagOf 14 11 [8, 9] bb = #[true, true, true, true, true, true, true, true, bb 8, bb 9, true, false, false, false] from rfl, hb8, hb9]
            obtain q203 := (hval 8 _ 203 (fun _ => hb8) rfl rfl).out rfl
            have h203 := (congrFun hf 203).trans q203
            change wpAny Try.prog .any _ _ (14 - (lagOf 14 11 [8, 9] bb).toList.count true) (lagOf 14 11 [8, 9] bb) _ _
            rw [hlag]
            clear hlag hdf hsz hkp hval hfa hf
            simp only [fillAll, List.take, List.set_cons_zero, List.set_cons_succ, h195, h202, h29, h203]
            clear h195 h202 h29 h203 q195 q202 q29 q203 hb8 hb9
            have hz40' : wB.heap[g40]? = some (.cells #[.slice none 0 0, .int .i64 0] 40 (0, 0)) := hz40
            have y0 : wB.cell? ⟨g40, 0, none⟩ = some (.slice none 0 0) := by simp [World.cell?, hz40']
            have y1 : wB.cell? ⟨g40, 1, none⟩ = some (.int .i64 0) := by simp [World.cell?, hz40']
            have u0 : wB.frozen? ⟨g40, 0, none⟩ = false := by simp [World.frozen?, hz40']
            have u1 : wB.frozen? ⟨g40, 1, none⟩ = false := by simp [World.frozen?, hz40']
            have hzz : ∀ k, k = g40 → ZB wB k ∧ wA.heap.size ≤ k := fun k e => by subst e; exact ⟨.inl hz40', hg40⟩
            have hkS := two_cells wB g40 (.slice a1 n1 c1) (.int .i64 (last1 : Int))
            have hSS := hid (hS.news hkS hzz (fun q hq x hx => hNA.bodies.lt q hq x hx) hNA.lt hNA.own.lt)
            have hrb := two_r hz40' (.slice a1 n1 c1) (.int .i64 (last1 : Int))
            have hglB : ¬ gl = g40 := fun e => by have h1 := V.llt; have h3 := hkA.size; omega
            have hglS := hkS.block gl (by have h1 := V.llt; have h3 := hkA.size; have h4 := bB.size; omega) hglB
            rw [bB.block gl (by have h1 := V.llt; have h3 := hkA.size; omega), V.gla hkA] at hglS
            have hX : ∀ k, k = g40 → w.heap.size ≤ k := fun k e => Nat.le_trans hkA.size (hzz k e).2
            have hgg : gl < wB.heap.size ∧ g40 < wB.heap.size := ⟨by have h1 := V.llt; have h3 := hkA.size; have h4 := bB.size; omega, hl40⟩
            replace hS := hid hS
            replace hz40 := hid hz40
            replace hz40' := hid hz40'
            replace hzz := hid hzz
            replace hkS := hid hkS
            replace hrb := hid hrb
            replace hglS := hid hglS
            replace hX := hid hX
            replace hglB := hid hglB
            replace V := hid V
            replace hNA := hid hNA
            replace hkA := hid hkA
            replace bB := hid bB
            try clear kR
            change wpAny Try.prog .any _ _ (3 + 1) _ _ _
            refine wpAny_take (i := 9) (v := .int .i64 ec) rfl (by kernel_rfl) (by kernel_rfl) (by kernel_rfl) (fun _ _ _ h => h) (Or.inl ⟨by rfl, ?_⟩) ?_
            · intro w
              go_simp
            change wpAny Try.prog .any _ _ (2 + 1) _ _ _
            refine wpAny_ready (rs := [11]) (by kernel_rfl) (by simp) ?_
            refine AllReady.cons rfl (fun K hK => ?_) AllReady.nil
            go_simp
            refine hK _ _ ?_
            clear hK K
            change wpAny Try.prog .any _ _ (1 + 1) _ _ _
            refine wpAny_ready (rs := [12]) (by kernel_rfl) (by simp) ?_
            refine AllReady.cons rfl (fun K hK => ?_) AllReady.nil
            go_simp
            refine hK _ _ ?_
            clear hK K
            change wpAny Try.prog .any _ _ (0 + 1) _ _ _
            refine wpAny_ready (rs := [13]) (by kernel_rfl) (by simp) ?_
            refine AllReady.cons rfl (fun K hK => ?_) AllReady.nil
            go_simp
            refine hK _ _ ?_
            clear hK K
            refine wpAny_done (by kernel_rfl) ?_ _
            replace V := V.out
            replace hNA := hNA.out
            replace hkA := hkA.out
            replace bB := bB.out
            clear y0 y1 u0 u1
            generalize (wB.setCell ⟨g40, 0, none⟩ (.slice a1 n1 c1)).setCell ⟨g40, 1, none⟩ (.int .i64 (last1 : Int)) = wS at *
            have r0 := hrb.out.cell0
            have r1 := hrb.out.cell1
            have l0 := (lcell hglS.out hon).1
            have l1 := (lcell hglS.out hon).2.1
            have k0 := (lcell hglS.out hon).2.2.1
            have k1 := (lcell hglS.out hon).2.2.2
            have hfin := V.fin hkA bB hkS.out hX.out hbw hSS.out
            replace V := hid V
            replace hNA := hid hNA
            replace hkA := hid hkA
            replace bB := hid bB
            replace hfin := hid hfin
            go_wp2_with fail
            have hPN : PN base gd gl on _ (b + 1) := ⟨_, _, _, _, _, _, _, _, _, _, _, _, _, _, _, _, hfin.out.1, by omega, by omega⟩
            exact hN.out _ _ _ _ _ _ _ _ _ _ _ _ _ _ _ _ _ _ _ _ _ _ _ _ _ _ _ _ _ _ _ _ _ _ _ _ _ _ _ _ _ _ _ _ _ _ _ _ _ _ _ _ _ _ _ _ _ _ _ _ _ _ _ _ _ _ _ _ _ _ _ _ _ _ _ _ _ _ _ _ _ _ _ _ _ _ _ _ _ _ _ _ _ _ _ _ _ _ _ _ _ _ _ _ _ _ _ _ _ _ _ _ _ _ _ _ _ _ _ _ _ _ _ _ _ _ _ _ _ _ _ _ _ _ _ _ _ _ _ _ _ _ _ _ _ _ _ _ _ _ _ _ _ _ _ _ _ _ _ _ _ _ _ _ _ _ _ _ _ _ _ _ _ _ _ _ hPN hfin.out.2
          · skip
            have hlag : lagOf 14 11 [8, 9] bb = #[true, true, true, true, true, true, true, true, true, true, true, false, false, false] := by rw [show lagOf 14 11 [8, 9] bb = #[true, true, true, true, true, true, true, true, bb 8, bb 9, true, false, false, false] from rfl, hb8, hb9]
            obtain q203 := (hval 8 _ 203 (fun _ => hb8) rfl rfl).out rfl
            have h203 := (congrFun hf 203).trans q203
            obtain q204 := (hval 9 _ 204 (fun _ => hb9) rfl rfl).out rfl
            have h204 := (congrFun hf 204).trans q204
            change wpAny Try.prog .any _ _ (14 - (lagOf 14 11 [8, 9] bb).toList.count true) (lagOf 14 11 [8, 9] bb) _ _
            rw [hlag]
            clear hlag hdf hsz hkp hval hfa hf
            simp only [fillAll, List.take, List.set_cons_zero, List.set_cons_succ, h195, h202, h29, h203, h204]
            clear h195 h202 h29 h203 h204 q195 q202 q29 q203 q204 hb8 hb9
            have hz40' : wB.heap[g40]? = some (.cells #[.slice none 0 0, .int .i64 0] 40 (0, 0)) := hz40
            have y0 : wB.cell? ⟨g40, 0, none⟩ = some (.slice none 0 0) := by simp [World.cell?, hz40']
            have y1 : wB.cell? ⟨g40, 1, none⟩ = some (.int .i64 0) := by simp [World.cell?, hz40']
            have u0 : wB.frozen? ⟨g40, 0, none⟩ = false := by simp [World.frozen?, hz40']
            have u1 : wB.frozen? ⟨g40, 1, none⟩ = false := by simp [World.frozen?, hz40']
            have hzz : ∀ k, k = g40 → ZB wB k ∧ wA.heap.size ≤ k := fun k e => by subst e; exact ⟨.inl hz40', hg40⟩
            have hkS := two_cells wB g40 (.slice a1 n1 c1) (.int .i64 (last1 : Int))
            have hSS := hid (hS.news hkS hzz (fun q hq x hx => hNA.bodies.lt q hq x hx) hNA.lt hNA.own.lt)
            have hrb := two_r hz40' (.slice a1 n1 c1) (.int .i64 (last1 : Int))
            have hglB : ¬ gl = g40 := fun e => by have h1 := V.llt; have h3 := hkA.size; omega
            have hglS := hkS.block gl (by have h1 := V.llt; have h3 := hkA.size; have h4 := bB.size; omega) hglB
            rw [bB.block gl (by have h1 := V.llt; have h3 := hkA.size; omega), V.gla hkA] at hglS
            have hX : ∀ k, k = g40 → w.heap.size ≤ k := fun k e => Nat.le_trans hkA.size (hzz k e).2
            have hgg : gl < wB.heap.size ∧ g40 < wB.heap.size := ⟨by have h1 := V.llt; have h3 := hkA.size; have h4 := bB.size; omega, hl40⟩
            replace hS := hid hS
            replace hz40 := hid hz40
            replace hz40' := hid hz40'
            replace hzz := hid hzz
            replace hkS := hid hkS
            replace hrb := hid hrb
            replace hglS := hid hglS
            replace hX := hid hX
            replace hglB := hid hglB
            replace V := hid V
            replace hNA := hid hNA
            replace hkA := hid hkA
            replace bB := hid bB
            try clear kR
            change wpAny Try.prog .any _ _ (2 + 1) _ _ _
            refine wpAny_ready (rs := [11]) (by kernel_rfl) (by simp) ?_
            refine AllReady.cons rfl (fun K hK => ?_) AllReady.nil
            go_simp
            refine hK _ _ ?_
            clear hK K
            change wpAny Try.prog .any _ _ (1 + 1) _ _ _
            refine wpAny_ready (rs := [12]) (by kernel_rfl) (by simp) ?_
            refine AllReady.cons rfl (fun K hK => ?_) AllReady.nil
            go_simp
            refine hK _ _ ?_
            clear hK K
            change wpAny Try.prog .any _ _ (0 + 1) _ _ _
            refine wpAny_ready (rs := [13]) (by kernel_rfl) (by simp) ?_
            refine AllReady.cons rfl (fun K hK => ?_) AllReady.nil
            go_simp
            refine hK _ _ ?_
            clear hK K
            refine wpAny_done (by kernel_rfl) ?_ _
            replace V := V.out
            replace hNA := hNA.out
            replace hkA := hkA.out
            replace bB := bB.out
            clear y0 y1 u0 u1
            generalize (wB.setCell ⟨g40, 0, none⟩ (.slice a1 n1 c1)).setCell ⟨g40, 1, none⟩ (.int .i64 (last1 : Int)) = wS at *
            have r0 := hrb.out.cell0
            have r1 := hrb.out.cell1
            have l0 := (lcell hglS.out hon).1
            have l1 := (lcell hglS.out hon).2.1
            have k0 := (lcell hglS.out hon).2.2.1
            have k1 := (lcell hglS.out hon).2.2.2
            have hfin := V.fin hkA bB hkS.out hX.out hbw hSS.out
            replace V := hid V
            replace hNA := hid hNA
            replace hkA := hid hkA
            replace bB := hid bB
            replace hfin := hid hfin
            go_wp2_with fail
            have hPN : PN base gd gl on _ (b + 1) := ⟨_, _, _, _, _, _, _, _, _, _, _, _, _, _, _, _, hfin.out.1, by omega, by omega⟩
            exact hN.out _ _ _ _ _ _ _ _ _ _ _ _ _ _ _ _ _ _ _ _ _ _ _ _ _ _ _ _ _ _ _ _ _ _ _ _ _ _ _ _ _ _ _ _ _ _ _ _ _ _ _ _ _ _ _ _ _ _ _ _ _ _ _ _ _ _ _ _ _ _ _ _ _ _ _ _ _ _ _ _ _ _ _ _ _ _ _ _ _ _ _ _ _ _ _ _ _ _ _ _ _ _ _ _ _ _ _ _ _ _ _ _ _ _ _ _ _ _ _ _ _ _ _ _ _ _ _ _ _ _ _ _ _ _ _ _ _ _ _ _ _ _ _ _ _ _ _ _ _ _ _ _ _ _ _ _ _ _ _ _ _ _ _ _ _ _ _ _ _ _ _ _ _ _ _ _ hPN hfin.out.2

end Go.Proofs.Ytgjjgfppolmkoaa
