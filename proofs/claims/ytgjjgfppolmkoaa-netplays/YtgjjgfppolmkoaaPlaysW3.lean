/- NetPlays: Drop. -/
import Derived.Test.YtgjjgfppolmkoaaPlaysC2
import Derived.Test.YtgjjgfppolmkoaaDraw4
namespace Go.Proofs.Ytgjjgfppolmkoaa
open Go.RowKit Go.Maps
set_option linter.unusedVariables false

def pv28 (gd on p g9 : Nat) (num ec : Int) : List Value := [.int .i64 (on : Int), .pointer (some ⟨gd, on, none⟩), .pointer (some ⟨p, 0, none⟩), .pointer (some ⟨g9, 5, none⟩), .int .i64 num, .int .i64 ec]

def pv29 (gl on n c last g9 : Nat) (a : Option Addr) (num : Int) : List Value := [.int .i64 (on : Int), .pointer (some ⟨gl, on * 2, none⟩), .agg #[.slice a n c, .int .i64 (last : Int)], .pointer (some ⟨g9, 5, none⟩), .int .i64 num, undef, undef, undef, undef, undef, undef, undef]

set_option maxRecDepth 1000000 in
set_option maxHeartbeats 8000000 in
theorem plays_w3 {F : Act → World → Prop} {w : World} {base gd gl g9 on b : Nat} {kind onv fr to num : Int} {ba : Option Addr} {len bc : Nat} {body : List UInt8} {c0 c1 c2 c3 c4 c7 c8 c12 c13 c14 c15 c16 c17 c18 c19 c20 c21 c22 c23 c24 c25 c26 c27 c28 c29 c30 c31 c32 c33 c34 c35 c36 c37 c38 c39 c40 c41 c42 c43 c44 c45 c46 c47 c48 c49 c50 c51 c52 c53 c54 c55 c56 c57 c58 c59 c60 c61 c62 c63 c64 c65 c66 c67 c68 c69 c70 c71 c72 c73 c74 c76 c77 c78 c79 c80 c81 c82 c83 c84 c85 c86 c87 c88 c89 c90 c91 c92 c93 c94 c95 c96 c97 c98 c99 c100 c101 c102 c103 c104 c105 c106 c107 c108 c109 c110 c111 c112 c113 c114 c115 c116 c117 c118 c119 c120 c121 c122 c123 c124 c125 c126 c127 c128 c129 c130 c131 c132 c133 c134 c135 c136 c137 c138 c139 c140 c141 c142 c143 c144 c145 c146 c147 c148 c149 c150 c151 c152 c153 c154 c155 c156 c157 c158 c159 c160 c161 c162 c163 c164 c165 c166 c167 c168 c169 c170 c171 c172 c173 c174 c175 c176 c177 c178 c179 c180 c181 c182 c183 c184 c185 c186 c187 c188 c189 c190 c191 c192 c193 c194 c195 c196 c197 c198 c199 c200 c201 c202 c203 c204 c205 c206 c207 c208 c209 c210 c211 c212 c213 c214 c215 c216 c217 c218 c219 c220 c221 c222 c223 c224 c225 c226 c227 c228 c229 c230 c231 c232 c233 c234 c235 c236 c237 c238 c239 c240 c241 c242 c243 c244 c245 c246 c247 c248 c249 c250 c251 c252 c253 c254 c255 c256 c257 c258 c259 c260 c261 c262 c263 : Value}
    (hP : Hid (PO base gd gl g9 on w b)) (hb : b ≤ 1000) (h9 : Hid (O9 w g9 kind onv fr to ba len bc num)) (hl : Hid (body.length = len)) (hlen : len ≤ 140737488355328) (hat : Hid (At w ba body)) (hba : Hid (body ≠ [] → ∀ x, ba = some x → x.block < base)) (hnum : Hid ((Lit.int .i64 num).wf = true)) (hkind : kind = 3)
    (hN : Hid (∀ (d12 d13 d14 d15 d16 d17 d18 d19 d20 d21 d22 d23 d24 d25 d26 d27 d28 d29 d30 d31 d76 d77 d78 d79 d80 d81 d82 d83 d84 d85 d86 d87 d88 d89 d90 d91 d92 d93 d94 d95 d96 d97 d98 d99 d100 d101 d102 d103 d104 d105 d106 d107 d108 d109 d110 d111 d112 d113 d114 d115 d116 d117 d118 d119 d120 d121 d122 d123 d124 d125 d126 d127 d128 d129 d130 d131 d132 d133 d134 d135 d136 d137 d138 d139 d140 d141 d142 d143 d144 d145 d146 d147 d148 d149 d150 d151 d152 d153 d154 d155 d156 d157 d158 d159 d160 d161 d162 d163 d164 d165 d166 d167 d168 d169 d170 d171 d172 d173 d174 d175 d176 d177 d178 d179 d180 d181 d182 d183 d184 d185 d186 d187 d188 d189 d190 d191 d192 d193 d194 d195 d196 d197 d198 d199 d200 d201 d202 d203 d204 d205 d206 d207 d208 d209 d210 d211 d212 d213 d214 d215 d216 d217 d218 d219 d220 d221 d222 d223 d224 d225 d226 d227 d228 d229 d230 : Value) (wE : World), PN base gd gl on wE (b + 1) → Below base w wE → F ⟨#[c0, c1, c2, c3, c4, .pointer (some ⟨gd, 0, none⟩), .pointer (some ⟨gl, 0, none⟩), c7, c8, .pointer (some ⟨g9, 0, none⟩), .int .i64 (on : Int), .bool true, d12, d13, d14, d15, d16, d17, d18, d19, d20, d21, d22, d23, d24, d25, d26, d27, d28, d29, d30, d31, c32, c33, c34, c35, c36, c37, c38, c39, c40, c41, c42, c43, c44, c45, c46, c47, c48, c49, c50, c51, c52, c53, c54, c55, c56, c57, c58, c59, c60, c61, c62, c63, c64, c65, c66, c67, c68, c69, c70, c71, c72, c73, c74, .int .i64 kind, d76, d77, d78, d79, d80, d81, d82, d83, d84, d85, d86, d87, d88, d89, d90, d91, d92, d93, d94, d95, d96, d97, d98, d99, d100, d101, d102, d103, d104, d105, d106, d107, d108, d109, d110, d111, d112, d113, d114, d115, d116, d117, d118, d119, d120, d121, d122, d123, d124, d125, d126, d127, d128, d129, d130, d131, d132, d133, d134, d135, d136, d137, d138, d139, d140, d141, d142, d143, d144, d145, d146, d147, d148, d149, d150, d151, d152, d153, d154, d155, d156, d157, d158, d159, d160, d161, d162, d163, d164, d165, d166, d167, d168, d169, d170, d171, d172, d173, d174, d175, d176, d177, d178, d179, d180, d181, d182, d183, d184, d185, d186, d187, d188, d189, d190, d191, d192, d193, d194, d195, d196, d197, d198, d199, d200, d201, d202, d203, d204, d205, d206, d207, d208, d209, d210, d211, d212, d213, d214, d215, d216, d217, d218, d219, d220, d221, d222, d223, d224, d225, d226, d227, d228, d229, d230, c231, c232, c233, c234, c235, c236, c237, c238, c239, c240, c241, c242, c243, c244, c245, c246, c247, c248, c249, c250, c251, c252, c253, c254, c255, c256, c257, c258, c259, c260, c261, c262, c263], []⟩ wE)) :
    Code.wp Try.prog ((Try.f4.body.bind (blkAt 4)).getD .skip) (Nrm F) ⟨#[c0, c1, c2, c3, c4, .pointer (some ⟨gd, 0, none⟩), .pointer (some ⟨gl, 0, none⟩), c7, c8, .pointer (some ⟨g9, 0, none⟩), .int .i64 (on : Int), .bool true, c12, c13, c14, c15, c16, c17, c18, c19, c20, c21, c22, c23, c24, c25, c26, c27, c28, c29, c30, c31, c32, c33, c34, c35, c36, c37, c38, c39, c40, c41, c42, c43, c44, c45, c46, c47, c48, c49, c50, c51, c52, c53, c54, c55, c56, c57, c58, c59, c60, c61, c62, c63, c64, c65, c66, c67, c68, c69, c70, c71, c72, c73, c74, .int .i64 kind, c76, c77, c78, c79, c80, c81, c82, c83, c84, c85, c86, c87, c88, c89, c90, c91, c92, c93, c94, c95, c96, c97, c98, c99, c100, c101, c102, c103, c104, c105, c106, c107, c108, c109, c110, c111, c112, c113, c114, c115, c116, c117, c118, c119, c120, c121, c122, c123, c124, c125, c126, c127, c128, c129, c130, c131, c132, c133, c134, c135, c136, c137, c138, c139, c140, c141, c142, c143, c144, c145, c146, c147, c148, c149, c150, c151, c152, c153, c154, c155, c156, c157, c158, c159, c160, c161, c162, c163, c164, c165, c166, c167, c168, c169, c170, c171, c172, c173, c174, c175, c176, c177, c178, c179, c180, c181, c182, c183, c184, c185, c186, c187, c188, c189, c190, c191, c192, c193, c194, c195, c196, c197, c198, c199, c200, c201, c202, c203, c204, c205, c206, c207, c208, c209, c210, c211, c212, c213, c214, c215, c216, c217, c218, c219, c220, c221, c222, c223, c224, c225, c226, c227, c228, c229, c230, c231, c232, c233, c234, c235, c236, c237, c238, c239, c240, c241, c242, c243, c244, c245, c246, c247, c248, c249, c250, c251, c252, c253, c254, c255, c256, c257, c258, c259, c260, c261, c262, c263], []⟩ w := by
  conv => arg 2; whnf
  obtain ⟨p, m, L, last, a, n, c, R, p', m', L', last', a', n', c', R', V, hb1, hb2, hT9⟩ := hP.out
  subst hkind
  have hon := V.on2
  have hon0 : (0 : Int) ≤ (on : Int) := by omega
  have hon2 : (on : Int) < 2 := by omega
  have hbw : base ≤ w.heap.size := by have h1 := V.bs.1; have h2 := V.sd.net.lt; omega

  obtain ⟨ec, X0, X1, X2, B, L1, hsub, _, kD, kR⟩ := del_both V num hnum.out
  replace V := hid V
  replace kD := hid kD
  replace kR := hid kR
  replace hsub := hid hsub
  go_wp2_with fail
  replace V := V.out
  replace kD := kD.out
  refine wp_region_turn 6 (Bf := TB w) (Af := TA w p m L1 last) (C := 5) (Pr := PrV (pv28 gd on p g9 num ec) [] (fun _ _ _ => True)) (by kernel_rfl) (by kernel_rfl) (by decide) (drew_below _) ?_ (by kernel_rfl) ?_
  · refine ⟨?_, ?_, ?_, ?_, ?_, ?_, trivial⟩
    · exact fun ac w hC hBA hd hk K hK => yes (want_n rfl) (wp_mv _ rfl _ (get_keep (hk 10 (no_dst (by kernel_rfl))) rfl) (hK _ w (PrV.is rfl rfl) (fun e => absurd e (by decide)) (fun _ => ⟨id, id⟩) (fun _ _ _ h => h)))
    · intro ac w hC hBA hd hk K hK
      have e5 : ac.tmps[5]?.getD undef = (.pointer (some ⟨gd, 0, none⟩) : Value) := slot (get_keep (hk 5 (no_dst (by kernel_rfl))) rfl)
      have e162 : ac.tmps[162]?.getD undef = (.int .i64 (on : Int) : Value) := slot ((hd 0 _ 162 rfl rfl rfl).val rfl)
      refine yes (want_n rfl) ?_
      have hv := hid (hK (.pointer (some ⟨gd, on, none⟩)) w (PrV.is rfl rfl) (fun e => absurd e (by decide)) (fun _ => ⟨id, id⟩) (fun _ _ _ h => h))
      clear hK hC hBA hd hk
      go_simp
      refine kq hv.out ?_
      rfl
    · intro ac w hC hBA hd hk K hK
      have e163 : ac.tmps[163]?.getD undef = (.pointer (some ⟨gd, on, none⟩) : Value) := slot ((hd 1 _ 163 rfl rfl rfl).val rfl)
      have x0 := V.dk (tba hBA)
      refine yes (want_n rfl) ?_
      have hv := hid (hK (.pointer (some ⟨p, 0, none⟩)) w (PrV.is rfl rfl) (fun e => absurd e (by decide)) (fun _ => ⟨id, id⟩) (fun _ _ _ h => h))
      clear hK hC hBA hd hk
      go_simp
      refine kq hv.out ?_
      rfl
    · intro ac w hC hBA hd hk K hK
      have e9 : ac.tmps[9]?.getD undef = (.pointer (some ⟨g9, 0, none⟩) : Value) := slot (get_keep (hk 9 (no_dst (by kernel_rfl))) rfl)
      refine yes (want_n rfl) ?_
      have hv := hid (hK (.pointer (some ⟨g9, 5, none⟩)) w (PrV.is rfl rfl) (fun e => absurd e (by decide)) (fun _ => ⟨id, id⟩) (fun _ _ _ h => h))
      clear hK hC hBA hd hk
      go_simp
      refine kq hv.out ?_
      rfl
    · intro ac w hC hBA hd hk K hK
      have e165 : ac.tmps[165]?.getD undef = (.pointer (some ⟨g9, 5, none⟩) : Value) := slot ((hd 3 _ 165 rfl rfl rfl).val rfl)
      have x0 := (h9.out.kt hT9 (tba hBA)).cells.2.2.2
      refine yes (want_n rfl) ?_
      have hv := hid (hK (.int .i64 num) w (PrV.is rfl rfl) (fun e => absurd e (by decide)) (fun _ => ⟨id, id⟩) (fun _ _ _ h => h))
      clear hK hC hBA hd hk
      go_simp
      refine kq hv.out ?_
      rfl
    · intro ac w hC hBA hd hk K hK
      refine yes (want_n rfl) ?_
      refine wp_callv 12 _ _ rfl _ Try.func12 rfl rfl _ (args2 ((hd 2 _ 164 rfl rfl rfl).val rfl) ((hd 4 _ 166 rfl rfl rfl).val rfl)) (kD w (hC rfl)) ?_
      rintro e w' ⟨rfl, hN1, hk1⟩
      exact ⟨_, rfl, hK _ w' (PrV.is rfl rfl) (fun _ => ⟨hN1, (Kp.of_below (hC rfl)).trans hk1⟩) (fun h => absurd rfl h) (fun j u hj h => PrV.mono2 id h)⟩
  · intro ac wA hdf hsz hkp hval hAf
    have q167 : ac.tmps.getD 167 undef = (.int .i64 ec : Value) := (hval 5 _ 167 rfl rfl).val rfl
    obtain ⟨f, hf⟩ : ∃ f, f = fun d => ac.tmps.getD d undef := ⟨_, rfl⟩
    have h167 : f 167 = (.int .i64 ec : Value) := by rw [hf]; exact q167
    have hfa := act_filled hdf hsz hkp
    rw [← hf] at hfa
    rw [hfa]
    clear hdf hsz hkp hval hfa hf q167
    clear ac
    simp only [fillAll, List.take, List.set_cons_zero, List.set_cons_succ, h167]
    clear h167
    obtain ⟨hNA, hkA⟩ := hAf
    clear kD
    replace V := hid V
    replace hNA := hid hNA
    replace hkA := hid hkA
    change wpAny Try.prog .any _ _ (0 + 1) _ _ _
    refine wpAny_ready (rs := [6]) (by kernel_rfl) (by simp) ?_
    refine AllReady.cons rfl (fun K hK => ?_) AllReady.nil
    go_simp
    refine hK _ _ ?_
    clear hK K
    refine wpAny_done (by kernel_rfl) ?_ _
    go_wp2_with fail
    replace V := V.out
    replace hNA := hNA.out
    replace hkA := hkA.out
    replace kR := kR.out
    refine wp_region_lag 12 [8, 9] (Bf := (fun w' => Below wA.heap.size wA w')) (Af := (fun w' => Below wA.heap.size wA w')) (C := 5) (Pr := PrV (pv29 gl on n c last g9 a num) [5, 6, 7, 8, 9, 10, 11] (R20 (T6 p m p' m' gd gl) w.heap.size wA.heap.size p m L1 last X0 X1 X2 B ec)) (by kernel_rfl) (by kernel_rfl) (by decide) (by decide) (by decide) (drew_below _) ?_ (by kernel_rfl) ?_
    · refine ⟨?_, ?_, ?_, ?_, ?_, ?_, ?_, ?_, ?_, ?_, ?_, ?_, trivial⟩
      · exact fun ac w hC hBA hd hk K hK => yes (want_n rfl) (wp_mv _ rfl _ (get_keep (hk 10 (no_dst (by kernel_rfl))) rfl) (hK _ w (PrV.is rfl rfl) (fun e => absurd e (by decide)) (fun _ => ⟨id, id⟩) (fun _ _ _ h => h)))
      · intro ac w hC hBA hd hk K hK
        have e6 : ac.tmps[6]?.getD undef = (.pointer (some ⟨gl, 0, none⟩) : Value) := slot (get_keep (hk 6 (no_dst (by kernel_rfl))) rfl)
        have e169 : ac.tmps[169]?.getD undef = (.int .i64 (on : Int) : Value) := slot ((hd 0 _ 169 rfl rfl rfl).val rfl)
        refine yes (want_n rfl) ?_
        have hv := hid (hK (.pointer (some ⟨gl, on * 2, none⟩)) w (PrV.is rfl rfl) (fun e => absurd e (by decide)) (fun _ => ⟨id, id⟩) (fun _ _ _ h => h))
        clear hK hC hBA hd hk
        go_simp
        refine kq hv.out ?_
        rfl
      · intro ac w hC hBA hd hk K hK
        have e170 : ac.tmps[170]?.getD undef = (.pointer (some ⟨gl, on * 2, none⟩) : Value) := slot ((hd 1 _ 170 rfl rfl rfl).val rfl)
        have x := V.lk (hkA.then (hBA.elim id id))
        have x0 := x.1
        have x1 := x.2
        clear x
        refine yes (want_n rfl) ?_
        have hv := hid (hK (.agg #[.slice a n c, .int .i64 (last : Int)]) w (PrV.is rfl rfl) (fun e => absurd e (by decide)) (fun _ => ⟨id, id⟩) (fun _ _ _ h => h))
        clear hK hC hBA hd hk
        go_simp
        refine kq hv.out ?_
        rfl
      · intro ac w hC hBA hd hk K hK
        have e9 : ac.tmps[9]?.getD undef = (.pointer (some ⟨g9, 0, none⟩) : Value) := slot (get_keep (hk 9 (no_dst (by kernel_rfl))) rfl)
        refine yes (want_n rfl) ?_
        have hv := hid (hK (.pointer (some ⟨g9, 5, none⟩)) w (PrV.is rfl rfl) (fun e => absurd e (by decide)) (fun _ => ⟨id, id⟩) (fun _ _ _ h => h))
        clear hK hC hBA hd hk
        go_simp
        refine kq hv.out ?_
        rfl
      · intro ac w hC hBA hd hk K hK
        have e172 : ac.tmps[172]?.getD undef = (.pointer (some ⟨g9, 5, none⟩) : Value) := slot ((hd 3 _ 172 rfl rfl rfl).val rfl)
        have x0 := (h9.out.kt hT9 (hkA.then (hBA.elim id id))).cells.2.2.2
        refine yes (want_n rfl) ?_
        have hv := hid (hK (.int .i64 num) w (PrV.is rfl rfl) (fun e => absurd e (by decide)) (fun _ => ⟨id, id⟩) (fun _ _ _ h => h))
        clear hK hC hBA hd hk
        go_simp
        refine kq hv.out ?_
        rfl
      · intro ac w hC hBA hd hk K hK
        refine yes (want_n rfl) ?_
        refine wp_callv 20 _ _ rfl _ Try.func20 rfl rfl _ (args2 ((hd 2 _ 171 rfl rfl rfl).val rfl) ((hd 4 _ 173 rfl rfl rfl).val rfl)) (kR w (hNA.below (hC rfl)) (hkA.then (hC rfl))) ?_
        rintro e w' ⟨a1, n1, c1, R1, b2, c2, rfl, hat2, hb2, hS, _, hbw⟩
        exact ⟨_, rfl, hK _ w' (PrV.by rfl ⟨a1, n1, c1, R1, b2, c2, rfl, hS, hat2, hb2⟩) (fun _ => bnext (hC rfl) hbw) (fun h => absurd rfl h) (fun j u hj h => PrV.mono2 (R20.below hbw) h)⟩
      · intro ac w hC hBA hd hk K hK
        obtain ⟨a1, n1, c1, R1, b2, c2, e1, hS, hat2, hb2⟩ := ((hd 5 _ 174 rfl rfl rfl).out rfl)
        exact yes (want_n rfl) (wp_mv _ rfl _ e1 (hK _ w (PrV.by rfl ⟨a1, n1, c1, R1, b2, c2, rfl, hS, hat2, hb2⟩) (fun e => absurd e (by decide)) (fun _ => ⟨id, id⟩) (fun _ _ _ h => h)))
      · intro ac w hC hBA hd hk K hK
        obtain ⟨a1, n1, c1, R1, b2, c2, e1, hS, hat2, hb2⟩ := ((hd 6 _ 168 rfl rfl rfl).out rfl)
        have e2 := slot e1
        refine yes (want_n rfl) ?_
        have hv := hid (hK (.agg #[.slice a1 n1 c1, .int .i64 (last : Int)]) w (PrV.by rfl ⟨a1, n1, c1, R1, rfl, hS⟩) (fun e => absurd e (by decide)) (fun _ => ⟨id, id⟩) (fun _ _ _ h => h))
        clear hK hC hBA hd hk hS
        go_simp
        exact hv.out
      · intro ac w hC hBA hd hk K hK
        obtain ⟨a1, n1, c1, R1, b2, c2, e1, hS, hat2, hb2⟩ := ((hd 6 _ 168 rfl rfl rfl).out rfl)
        have e2 := slot e1
        refine yes (want_n rfl) ?_
        have hv := hid (hK (.agg #[.int .i64 X0, .int .i64 X1, .int .i64 X2, .slice b2 B.length c2]) w (PrV.by rfl ⟨b2, c2, rfl, hat2, hb2⟩) (fun e => absurd e (by decide)) (fun _ => ⟨id, id⟩) (fun _ _ _ h => h))
        clear hK hC hBA hd hk hS
        go_simp
        exact hv.out
      · intro ac w hC hBA hd hk K hK
        obtain ⟨a1, n1, c1, R1, b2, c2, e1, hS, hat2, hb2⟩ := ((hd 6 _ 168 rfl rfl rfl).out rfl)
        have e2 := slot e1
        refine yes (want_n rfl) ?_
        have hv := hid (hK (.int .i64 ec) w (PrV.by rfl rfl) (fun e => absurd e (by decide)) (fun _ => ⟨id, id⟩) (fun _ _ _ h => h))
        clear hK hC hBA hd hk hS
        go_simp
        exact hv.out
      · intro ac w hC hBA hd hk K hK
        have hbl := below_lit w (.cells z40 40)
        have hsz := (hBA.elim id id : Below wA.heap.size wA w).size
        have hv := hid (hK (.pointer (some ⟨w.heap.size, 0, none⟩)) (w.alloc (.cells z40 40)) (PrV.by rfl ⟨w.heap.size, rfl, hsz, by rw [World.size_alloc]; omega, heap_alloc_new w _⟩) (fun e => absurd e (by decide)) (fun _ => ⟨fun h => bnext h hbl, fun h => bnext h hbl⟩) (fun j u hj h => PrV.mono2 (R20.below hbl) h))
        refine yes (want_n rfl) ?_
        clear hK hC hBA hd hk
        go_simp
        exact hv.out
      · intro ac w hC hBA hd hk K hK
        have hbl := below_lit w (.cells z31 31)
        have hsz := (hBA.elim id id : Below wA.heap.size wA w).size
        have hv := hid (hK (.pointer (some ⟨w.heap.size, 0, none⟩)) (w.alloc (.cells z31 31)) (PrV.by rfl ⟨w.heap.size, rfl, hsz, by rw [World.size_alloc]; omega, heap_alloc_new w _⟩) (fun e => absurd e (by decide)) (fun _ => ⟨fun h => bnext h hbl, fun h => bnext h hbl⟩) (fun j u hj h => PrV.mono2 (R20.below hbl) h))
        refine yes (want_n rfl) ?_
        clear hK hC hBA hd hk
        go_simp
        exact hv.out
    · intro bb ac wB hdf hsz hkp hval bB
      obtain ⟨_, _, _, _, b2, c2, q168, _, hat2, hb2⟩ := (hval 6 _ 168 (fun h => absurd h (by decide)) rfl rfl).out rfl
      obtain ⟨a1, n1, c1, R1, q175, hS⟩ := (hval 7 _ 175 (fun h => absurd h (by decide)) rfl rfl).out rfl
      obtain ⟨g40, q24, hg40, hl40, hz40⟩ := (hval 10 _ 24 (fun h => absurd h (by decide)) rfl rfl).out rfl
      obtain ⟨g31, q25, hg31, hl31, hz31⟩ := (hval 11 _ 25 (fun h => absurd h (by decide)) rfl rfl).out rfl
      obtain ⟨f, hf⟩ : ∃ f, f = fun d => ac.tmps.getD d undef := ⟨_, rfl⟩
      have h168 := (congrFun hf 168).trans q168
      have h175 := (congrFun hf 175).trans q175
      have h24 := (congrFun hf 24).trans q24
      have h25 := (congrFun hf 25).trans q25
      have hfa := act_filled hdf hsz hkp
      rw [← hf] at hfa
      rw [hfa]
      cases hb8 : bb 8
      · skip
        cases hb9 : bb 9
        · skip
          have hlag : lagOf 15 12 [8, 9] bb = #[true, true, true, true, true, true, true, true, false, false, true, true, false, false, false] := by rw [show lagOf 15 12 [8, 9] bb = #[true, true, true, true, true, true, true, true, bb 8, bb 9, true, true, false, false, false] from rfl, hb8, hb9]
          change wpAny Try.prog .any _ _ (15 - (lagOf 15 12 [8, 9] bb).toList.count true) (lagOf 15 12 [8, 9] bb) _ _
          rw [hlag]
          clear hlag hdf hsz hkp hval hfa hf
          simp only [fillAll, List.take, List.set_cons_zero, List.set_cons_succ, h168, h175, h24, h25]
          clear h168 h175 h24 h25 q168 q175 q24 q25 hb8 hb9
          have hne : ¬ g40 = g31 := fun e => by rw [e, hz31] at hz40; simp at hz40
          have hne2 : ¬ g31 = g40 := fun e => hne e.symm
          have hz40' : wB.heap[g40]? = some (.cells #[.slice none 0 0, .int .i64 0] 40 (0, 0)) := hz40
          have hz31' : wB.heap[g31]? = some (.cells #[.int .i64 0, .int .i64 0, .int .i64 0, .slice none 0 0] 31 (0, 0)) := hz31
          have y0 : wB.cell? ⟨g40, 0, none⟩ = some (.slice none 0 0) := by simp [World.cell?, hz40']
          have y1 : wB.cell? ⟨g40, 1, none⟩ = some (.int .i64 0) := by simp [World.cell?, hz40']
          have u0 : wB.frozen? ⟨g40, 0, none⟩ = false := by simp [World.frozen?, hz40']
          have u1 : wB.frozen? ⟨g40, 1, none⟩ = false := by simp [World.frozen?, hz40']
          have x0 : wB.cell? ⟨g31, 0, none⟩ = some (.int .i64 0) := by simp [World.cell?, hz31']
          have x1 : wB.cell? ⟨g31, 1, none⟩ = some (.int .i64 0) := by simp [World.cell?, hz31']
          have x2 : wB.cell? ⟨g31, 2, none⟩ = some (.int .i64 0) := by simp [World.cell?, hz31']
          have x3 : wB.cell? ⟨g31, 3, none⟩ = some (.slice none 0 0) := by simp [World.cell?, hz31']
          have v0 : wB.frozen? ⟨g31, 0, none⟩ = false := by simp [World.frozen?, hz31']
          have v1 : wB.frozen? ⟨g31, 1, none⟩ = false := by simp [World.frozen?, hz31']
          have v2 : wB.frozen? ⟨g31, 2, none⟩ = false := by simp [World.frozen?, hz31']
          have v3 : wB.frozen? ⟨g31, 3, none⟩ = false := by simp [World.frozen?, hz31']
          have hzz : ∀ k, (k = g40 ∨ k = g31) → ZB wB k ∧ wA.heap.size ≤ k := fun k e => by
            rcases e with rfl | rfl
            · exact ⟨.inl hz40', hg40⟩
            · exact ⟨.inr hz31', hg31⟩
          have hkS := six_cells wB g40 g31 (.slice a1 n1 c1) (.int .i64 (last : Int)) (.int .i64 X0) (.int .i64 X1) (.int .i64 X2) (.slice b2 B.length c2)
          have hSS := hid (hS.news hkS hzz (fun q hq x hx => hNA.bodies.lt q hq x hx) hNA.lt hNA.own.lt)
          have hrb := six_r wB g40 g31 hne hz40' (.slice a1 n1 c1) (.int .i64 (last : Int)) (.int .i64 X0) (.int .i64 X1) (.int .i64 X2) (.slice b2 B.length c2)
          have hpb := six_p wB g40 g31 hne hz31' (.slice a1 n1 c1) (.int .i64 (last : Int)) (.int .i64 X0) (.int .i64 X1) (.int .i64 X2) (.slice b2 B.length c2)
          have hat2S := hat2.kp hkS (fun x hx e => by have h1 := (hb2 x hx).1; have h2 := (hzz _ e).2; have h3 := hkA.size; omega)
          have hglB : ¬ gl = g40 ∧ ¬ gl = g31 := ⟨fun e => by have h1 := V.llt; have h3 := hkA.size; omega, fun e => by have h1 := V.llt; have h3 := hkA.size; omega⟩
          have hglS := hkS.block gl (by have h1 := V.llt; have h3 := hkA.size; have h4 := bB.size; omega) (fun e => by rcases e with e | e; exact hglB.1 e; exact hglB.2 e)
          rw [bB.block gl (by have h1 := V.llt; have h3 := hkA.size; omega), V.gla hkA] at hglS
          have hX : ∀ k, (k = g40 ∨ k = g31) → w.heap.size ≤ k := fun k e => Nat.le_trans hkA.size (hzz k e).2
          have hgg : gl < wB.heap.size ∧ g40 < wB.heap.size ∧ g31 < wB.heap.size := ⟨by have h1 := V.llt; have h3 := hkA.size; have h4 := bB.size; omega, hl40, hl31⟩
          replace hS := hid hS
          replace hat2 := hid hat2
          replace hb2 := hid hb2
          replace hz40 := hid hz40
          replace hz31 := hid hz31
          replace hz40' := hid hz40'
          replace hz31' := hid hz31'
          replace hzz := hid hzz
          replace hkS := hid hkS
          replace hrb := hid hrb
          replace hpb := hid hpb
          replace hat2S := hid hat2S
          replace hglS := hid hglS
          replace hX := hid hX
          replace hglB := hid hglB
          replace V := hid V
          replace hNA := hid hNA
          replace hkA := hid hkA
          replace bB := hid bB
          try clear kR
          change wpAny Try.prog .any _ _ (4 + 1) _ _ _
          refine wpAny_take (i := 8) (v := .agg #[.int .i64 X0, .int .i64 X1, .int .i64 X2, .slice b2 B.length c2]) rfl (by kernel_rfl) (by kernel_rfl) (by kernel_rfl) (fun _ _ _ h => h) (Or.inl ⟨by rfl, ?_⟩) ?_
          · intro w
            go_simp
          change wpAny Try.prog .any _ _ (3 + 1) _ _ _
          refine wpAny_take (i := 9) (v := .int .i64 ec) rfl (by kernel_rfl) (by kernel_rfl) (by kernel_rfl) (fun _ _ _ h => h) (Or.inl ⟨by rfl, ?_⟩) ?_
          · intro w
            go_simp
          change wpAny Try.prog .any _ _ (2 + 1) _ _ _
          refine wpAny_ready (rs := [12]) (by kernel_rfl) (by simp) ?_
          refine AllReady.cons rfl (fun K hK => ?_) AllReady.nil
          go_simp
          refine hK _ _ ?_
          clear hK K
          change wpAny Try.prog .any _ _ (1 + 1) _ _ _
          refine wpAny_ready (rs := [13]) (by kernel_rfl) (by simp) ?_
          refine AllReady.cons rfl (fun K hK => ?_) AllReady.nil
          go_simp
          refine hK _ _ ?_
          clear hK K
          change wpAny Try.prog .any _ _ (0 + 1) _ _ _
          refine wpAny_ready (rs := [14]) (by kernel_rfl) (by simp) ?_
          refine AllReady.cons rfl (fun K hK => ?_) AllReady.nil
          go_simp
          refine hK _ _ ?_
          clear hK K
          refine wpAny_done (by kernel_rfl) ?_ _
          replace V := V.out
          replace hNA := hNA.out
          replace hkA := hkA.out
          replace bB := bB.out
          clear y0 y1 u0 u1 x0 x1 x2 x3 v0 v1 v2 v3 hne hne2
          generalize (((((wB.setCell ⟨g40, 0, none⟩ (.slice a1 n1 c1)).setCell ⟨g40, 1, none⟩ (.int .i64 (last : Int))).setCell ⟨g31, 0, none⟩ (.int .i64 X0)).setCell ⟨g31, 1, none⟩ (.int .i64 X1)).setCell ⟨g31, 2, none⟩ (.int .i64 X2)).setCell ⟨g31, 3, none⟩ (.slice b2 B.length c2) = wS at *
          have r0 := hrb.out.cell0
          have r1 := hrb.out.cell1
          have l0 := (lcell hglS.out hon).1
          have l1 := (lcell hglS.out hon).2.1
          have k0 := (lcell hglS.out hon).2.2.1
          have k1 := (lcell hglS.out hon).2.2.2
          have hfin := V.fin hkA bB hkS.out hX.out hbw hSS.out
          replace V := hid V
          replace hNA := hid hNA
          replace hkA := hid hkA
          replace bB := hid bB
          replace hfin := hid hfin
          go_wp2_with fail
          have hPN : PN base gd gl on _ (b + 1) := ⟨_, _, _, _, _, _, _, _, _, _, _, _, _, _, _, _, hfin.out.1, by omega, by omega⟩
          exact hN.out _ _ _ _ _ _ _ _ _ _ _ _ _ _ _ _ _ _ _ _ _ _ _ _ _ _ _ _ _ _ _ _ _ _ _ _ _ _ _ _ _ _ _ _ _ _ _ _ _ _ _ _ _ _ _ _ _ _ _ _ _ _ _ _ _ _ _ _ _ _ _ _ _ _ _ _ _ _ _ _ _ _ _ _ _ _ _ _ _ _ _ _ _ _ _ _ _ _ _ _ _ _ _ _ _ _ _ _ _ _ _ _ _ _ _ _ _ _ _ _ _ _ _ _ _ _ _ _ _ _ _ _ _ _ _ _ _ _ _ _ _ _ _ _ _ _ _ _ _ _ _ _ _ _ _ _ _ _ _ _ _ _ _ _ _ _ _ _ _ _ _ _ _ _ _ _ hPN hfin.out.2
        · skip
          have hlag : lagOf 15 12 [8, 9] bb = #[true, true, true, true, true, true, true, true, false, true, true, true, false, false, false] := by rw [show lagOf 15 12 [8, 9] bb = #[true, true, true, true, true, true, true, true, bb 8, bb 9, true, true, false, false, false] from rfl, hb8, hb9]
          obtain q177 := (hval 9 _ 177 (fun _ => hb9) rfl rfl).out rfl
          have h177 := (congrFun hf 177).trans q177
          change wpAny Try.prog .any _ _ (15 - (lagOf 15 12 [8, 9] bb).toList.count true) (lagOf 15 12 [8, 9] bb) _ _
          rw [hlag]
          clear hlag hdf hsz hkp hval hfa hf
          simp only [fillAll, List.take, List.set_cons_zero, List.set_cons_succ, h168, h175, h24, h25, h177]
          clear h168 h175 h24 h25 h177 q168 q175 q24 q25 q177 hb8 hb9
          have hne : ¬ g40 = g31 := fun e => by rw [e, hz31] at hz40; simp at hz40
          have hne2 : ¬ g31 = g40 := fun e => hne e.symm
          have hz40' : wB.heap[g40]? = some (.cells #[.slice none 0 0, .int .i64 0] 40 (0, 0)) := hz40
          have hz31' : wB.heap[g31]? = some (.cells #[.int .i64 0, .int .i64 0, .int .i64 0, .slice none 0 0] 31 (0, 0)) := hz31
          have y0 : wB.cell? ⟨g40, 0, none⟩ = some (.slice none 0 0) := by simp [World.cell?, hz40']
          have y1 : wB.cell? ⟨g40, 1, none⟩ = some (.int .i64 0) := by simp [World.cell?, hz40']
          have u0 : wB.frozen? ⟨g40, 0, none⟩ = false := by simp [World.frozen?, hz40']
          have u1 : wB.frozen? ⟨g40, 1, none⟩ = false := by simp [World.frozen?, hz40']
          have x0 : wB.cell? ⟨g31, 0, none⟩ = some (.int .i64 0) := by simp [World.cell?, hz31']
          have x1 : wB.cell? ⟨g31, 1, none⟩ = some (.int .i64 0) := by simp [World.cell?, hz31']
          have x2 : wB.cell? ⟨g31, 2, none⟩ = some (.int .i64 0) := by simp [World.cell?, hz31']
          have x3 : wB.cell? ⟨g31, 3, none⟩ = some (.slice none 0 0) := by simp [World.cell?, hz31']
          have v0 : wB.frozen? ⟨g31, 0, none⟩ = false := by simp [World.frozen?, hz31']
          have v1 : wB.frozen? ⟨g31, 1, none⟩ = false := by simp [World.frozen?, hz31']
          have v2 : wB.frozen? ⟨g31, 2, none⟩ = false := by simp [World.frozen?, hz31']
          have v3 : wB.frozen? ⟨g31, 3, none⟩ = false := by simp [World.frozen?, hz31']
          have hzz : ∀ k, (k = g40 ∨ k = g31) → ZB wB k ∧ wA.heap.size ≤ k := fun k e => by
            rcases e with rfl | rfl
            · exact ⟨.inl hz40', hg40⟩
            · exact ⟨.inr hz31', hg31⟩
          have hkS := six_cells wB g40 g31 (.slice a1 n1 c1) (.int .i64 (last : Int)) (.int .i64 X0) (.int .i64 X1) (.int .i64 X2) (.slice b2 B.length c2)
          have hSS := hid (hS.news hkS hzz (fun q hq x hx => hNA.bodies.lt q hq x hx) hNA.lt hNA.own.lt)
          have hrb := six_r wB g40 g31 hne hz40' (.slice a1 n1 c1) (.int .i64 (last : Int)) (.int .i64 X0) (.int .i64 X1) (.int .i64 X2) (.slice b2 B.length c2)
          have hpb := six_p wB g40 g31 hne hz31' (.slice a1 n1 c1) (.int .i64 (last : Int)) (.int .i64 X0) (.int .i64 X1) (.int .i64 X2) (.slice b2 B.length c2)
          have hat2S := hat2.kp hkS (fun x hx e => by have h1 := (hb2 x hx).1; have h2 := (hzz _ e).2; have h3 := hkA.size; omega)
          have hglB : ¬ gl = g40 ∧ ¬ gl = g31 := ⟨fun e => by have h1 := V.llt; have h3 := hkA.size; omega, fun e => by have h1 := V.llt; have h3 := hkA.size; omega⟩
          have hglS := hkS.block gl (by have h1 := V.llt; have h3 := hkA.size; have h4 := bB.size; omega) (fun e => by rcases e with e | e; exact hglB.1 e; exact hglB.2 e)
          rw [bB.block gl (by have h1 := V.llt; have h3 := hkA.size; omega), V.gla hkA] at hglS
          have hX : ∀ k, (k = g40 ∨ k = g31) → w.heap.size ≤ k := fun k e => Nat.le_trans hkA.size (hzz k e).2
          have hgg : gl < wB.heap.size ∧ g40 < wB.heap.size ∧ g31 < wB.heap.size := ⟨by have h1 := V.llt; have h3 := hkA.size; have h4 := bB.size; omega, hl40, hl31⟩
          replace hS := hid hS
          replace hat2 := hid hat2
          replace hb2 := hid hb2
          replace hz40 := hid hz40
          replace hz31 := hid hz31
          replace hz40' := hid hz40'
          replace hz31' := hid hz31'
          replace hzz := hid hzz
          replace hkS := hid hkS
          replace hrb := hid hrb
          replace hpb := hid hpb
          replace hat2S := hid hat2S
          replace hglS := hid hglS
          replace hX := hid hX
          replace hglB := hid hglB
          replace V := hid V
          replace hNA := hid hNA
          replace hkA := hid hkA
          replace bB := hid bB
          try clear kR
          change wpAny Try.prog .any _ _ (3 + 1) _ _ _
          refine wpAny_take (i := 8) (v := .agg #[.int .i64 X0, .int .i64 X1, .int .i64 X2, .slice b2 B.length c2]) rfl (by kernel_rfl) (by kernel_rfl) (by kernel_rfl) (fun _ _ _ h => h) (Or.inl ⟨by rfl, ?_⟩) ?_
          · intro w
            go_simp
          change wpAny Try.prog .any _ _ (2 + 1) _ _ _
          refine wpAny_ready (rs := [12]) (by kernel_rfl) (by simp) ?_
          refine AllReady.cons rfl (fun K hK => ?_) AllReady.nil
          go_simp
          refine hK _ _ ?_
          clear hK K
          change wpAny Try.prog .any _ _ (1 + 1) _ _ _
          refine wpAny_ready (rs := [13]) (by kernel_rfl) (by simp) ?_
          refine AllReady.cons rfl (fun K hK => ?_) AllReady.nil
          go_simp
          refine hK _ _ ?_
          clear hK K
          change wpAny Try.prog .any _ _ (0 + 1) _ _ _
          refine wpAny_ready (rs := [14]) (by kernel_rfl) (by simp) ?_
          refine AllReady.cons rfl (fun K hK => ?_) AllReady.nil
          go_simp
          refine hK _ _ ?_
          clear hK K
          refine wpAny_done (by kernel_rfl) ?_ _
          replace V := V.out
          replace hNA := hNA.out
          replace hkA := hkA.out
          replace bB := bB.out
          clear y0 y1 u0 u1 x0 x1 x2 x3 v0 v1 v2 v3 hne hne2
          generalize (((((wB.setCell ⟨g40, 0, none⟩ (.slice a1 n1 c1)).setCell ⟨g40, 1, none⟩ (.int .i64 (last : Int))).setCell ⟨g31, 0, none⟩ (.int .i64 X0)).setCell ⟨g31, 1, none⟩ (.int .i64 X1)).setCell ⟨g31, 2, none⟩ (.int .i64 X2)).setCell ⟨g31, 3, none⟩ (.slice b2 B.length c2) = wS at *
          have r0 := hrb.out.cell0
          have r1 := hrb.out.cell1
          have l0 := (lcell hglS.out hon).1
          have l1 := (lcell hglS.out hon).2.1
          have k0 := (lcell hglS.out hon).2.2.1
          have k1 := (lcell hglS.out hon).2.2.2
          have hfin := V.fin hkA bB hkS.out hX.out hbw hSS.out
          replace V := hid V
          replace hNA := hid hNA
          replace hkA := hid hkA
          replace bB := hid bB
          replace hfin := hid hfin
          go_wp2_with fail
          have hPN : PN base gd gl on _ (b + 1) := ⟨_, _, _, _, _, _, _, _, _, _, _, _, _, _, _, _, hfin.out.1, by omega, by omega⟩
          exact hN.out _ _ _ _ _ _ _ _ _ _ _ _ _ _ _ _ _ _ _ _ _ _ _ _ _ _ _ _ _ _ _ _ _ _ _ _ _ _ _ _ _ _ _ _ _ _ _ _ _ _ _ _ _ _ _ _ _ _ _ _ _ _ _ _ _ _ _ _ _ _ _ _ _ _ _ _ _ _ _ _ _ _ _ _ _ _ _ _ _ _ _ _ _ _ _ _ _ _ _ _ _ _ _ _ _ _ _ _ _ _ _ _ _ _ _ _ _ _ _ _ _ _ _ _ _ _ _ _ _ _ _ _ _ _ _ _ _ _ _ _ _ _ _ _ _ _ _ _ _ _ _ _ _ _ _ _ _ _ _ _ _ _ _ _ _ _ _ _ _ _ _ _ _ _ _ _ hPN hfin.out.2
      · skip
        cases hb9 : bb 9
        · skip
          have hlag : lagOf 15 12 [8, 9] bb = #[true, true, true, true, true, true, true, true, true, false, true, true, false, false, false] := by rw [show lagOf 15 12 [8, 9] bb = #[true, true, true, true, true, true, true, true, bb 8, bb 9, true, true, false, false, false] from rfl, hb8, hb9]
          clear hat2 hb2
          obtain ⟨b2, c2, q176, hat2, hb2⟩ := (hval 8 _ 176 (fun _ => hb8) rfl rfl).out rfl
          have h176 := (congrFun hf 176).trans q176
          change wpAny Try.prog .any _ _ (15 - (lagOf 15 12 [8, 9] bb).toList.count true) (lagOf 15 12 [8, 9] bb) _ _
          rw [hlag]
          clear hlag hdf hsz hkp hval hfa hf
          simp only [fillAll, List.take, List.set_cons_zero, List.set_cons_succ, h168, h175, h24, h25, h176]
          clear h168 h175 h24 h25 h176 q168 q175 q24 q25 q176 hb8 hb9
          have hne : ¬ g40 = g31 := fun e => by rw [e, hz31] at hz40; simp at hz40
          have hne2 : ¬ g31 = g40 := fun e => hne e.symm
          have hz40' : wB.heap[g40]? = some (.cells #[.slice none 0 0, .int .i64 0] 40 (0, 0)) := hz40
          have hz31' : wB.heap[g31]? = some (.cells #[.int .i64 0, .int .i64 0, .int .i64 0, .slice none 0 0] 31 (0, 0)) := hz31
          have y0 : wB.cell? ⟨g40, 0, none⟩ = some (.slice none 0 0) := by simp [World.cell?, hz40']
          have y1 : wB.cell? ⟨g40, 1, none⟩ = some (.int .i64 0) := by simp [World.cell?, hz40']
          have u0 : wB.frozen? ⟨g40, 0, none⟩ = false := by simp [World.frozen?, hz40']
          have u1 : wB.frozen? ⟨g40, 1, none⟩ = false := by simp [World.frozen?, hz40']
          have x0 : wB.cell? ⟨g31, 0, none⟩ = some (.int .i64 0) := by simp [World.cell?, hz31']
          have x1 : wB.cell? ⟨g31, 1, none⟩ = some (.int .i64 0) := by simp [World.cell?, hz31']
          have x2 : wB.cell? ⟨g31, 2, none⟩ = some (.int .i64 0) := by simp [World.cell?, hz31']
          have x3 : wB.cell? ⟨g31, 3, none⟩ = some (.slice none 0 0) := by simp [World.cell?, hz31']
          have v0 : wB.frozen? ⟨g31, 0, none⟩ = false := by simp [World.frozen?, hz31']
          have v1 : wB.frozen? ⟨g31, 1, none⟩ = false := by simp [World.frozen?, hz31']
          have v2 : wB.frozen? ⟨g31, 2, none⟩ = false := by simp [World.frozen?, hz31']
          have v3 : wB.frozen? ⟨g31, 3, none⟩ = false := by simp [World.frozen?, hz31']
          have hzz : ∀ k, (k = g40 ∨ k = g31) → ZB wB k ∧ wA.heap.size ≤ k := fun k e => by
            rcases e with rfl | rfl
            · exact ⟨.inl hz40', hg40⟩
            · exact ⟨.inr hz31', hg31⟩
          have hkS := six_cells wB g40 g31 (.slice a1 n1 c1) (.int .i64 (last : Int)) (.int .i64 X0) (.int .i64 X1) (.int .i64 X2) (.slice b2 B.length c2)
          have hSS := hid (hS.news hkS hzz (fun q hq x hx => hNA.bodies.lt q hq x hx) hNA.lt hNA.own.lt)
          have hrb := six_r wB g40 g31 hne hz40' (.slice a1 n1 c1) (.int .i64 (last : Int)) (.int .i64 X0) (.int .i64 X1) (.int .i64 X2) (.slice b2 B.length c2)
          have hpb := six_p wB g40 g31 hne hz31' (.slice a1 n1 c1) (.int .i64 (last : Int)) (.int .i64 X0) (.int .i64 X1) (.int .i64 X2) (.slice b2 B.length c2)
          have hat2S := hat2.kp hkS (fun x hx e => by have h1 := (hb2 x hx).1; have h2 := (hzz _ e).2; have h3 := hkA.size; omega)
          have hglB : ¬ gl = g40 ∧ ¬ gl = g31 := ⟨fun e => by have h1 := V.llt; have h3 := hkA.size; omega, fun e => by have h1 := V.llt; have h3 := hkA.size; omega⟩
          have hglS := hkS.block gl (by have h1 := V.llt; have h3 := hkA.size; have h4 := bB.size; omega) (fun e => by rcases e with e | e; exact hglB.1 e; exact hglB.2 e)
          rw [bB.block gl (by have h1 := V.llt; have h3 := hkA.size; omega), V.gla hkA] at hglS
          have hX : ∀ k, (k = g40 ∨ k = g31) → w.heap.size ≤ k := fun k e => Nat.le_trans hkA.size (hzz k e).2
          have hgg : gl < wB.heap.size ∧ g40 < wB.heap.size ∧ g31 < wB.heap.size := ⟨by have h1 := V.llt; have h3 := hkA.size; have h4 := bB.size; omega, hl40, hl31⟩
          replace hS := hid hS
          replace hat2 := hid hat2
          replace hb2 := hid hb2
          replace hz40 := hid hz40
          replace hz31 := hid hz31
          replace hz40' := hid hz40'
          replace hz31' := hid hz31'
          replace hzz := hid hzz
          replace hkS := hid hkS
          replace hrb := hid hrb
          replace hpb := hid hpb
          replace hat2S := hid hat2S
          replace hglS := hid hglS
          replace hX := hid hX
          replace hglB := hid hglB
          replace V := hid V
          replace hNA := hid hNA
          replace hkA := hid hkA
          replace bB := hid bB
          try clear kR
          change wpAny Try.prog .any _ _ (3 + 1) _ _ _
          refine wpAny_take (i := 9) (v := .int .i64 ec) rfl (by kernel_rfl) (by kernel_rfl) (by kernel_rfl) (fun _ _ _ h => h) (Or.inl ⟨by rfl, ?_⟩) ?_
          · intro w
            go_simp
          change wpAny Try.prog .any _ _ (2 + 1) _ _ _
          refine wpAny_ready (rs := [12]) (by kernel_rfl) (by simp) ?_
          refine AllReady.cons rfl (fun K hK => ?_) AllReady.nil
          go_simp
          refine hK _ _ ?_
          clear hK K
          change wpAny Try.prog .any _ _ (1 + 1) _ _ _
          refine wpAny_ready (rs := [13]) (by kernel_rfl) (by simp) ?_
          refine AllReady.cons rfl (fun K hK => ?_) AllReady.nil
          go_simp
          refine hK _ _ ?_
          clear hK K
          change wpAny Try.prog .any _ _ (0 + 1) _ _ _
          refine wpAny_ready (rs := [14]) (by kernel_rfl) (by simp) ?_
          refine AllReady.cons rfl (fun K hK => ?_) AllReady.nil
          go_simp
          refine hK _ _ ?_
          clear hK K
          refine wpAny_done (by kernel_rfl) ?_ _
          replace V := V.out
          replace hNA := hNA.out
          replace hkA := hkA.out
          replace bB := bB.out
          clear y0 y1 u0 u1 x0 x1 x2 x3 v0 v1 v2 v3 hne hne2
          generalize (((((wB.setCell ⟨g40, 0, none⟩ (.slice a1 n1 c1)).setCell ⟨g40, 1, none⟩ (.int .i64 (last : Int))).setCell ⟨g31, 0, none⟩ (.int .i64 X0)).setCell ⟨g31, 1, none⟩ (.int .i64 X1)).setCell ⟨g31, 2, none⟩ (.int .i64 X2)).setCell ⟨g31, 3, none⟩ (.slice b2 B.length c2) = wS at *
          have r0 := hrb.out.cell0
          have r1 := hrb.out.cell1
          have l0 := (lcell hglS.out hon).1
          have l1 := (lcell hglS.out hon).2.1
          have k0 := (lcell hglS.out hon).2.2.1
          have k1 := (lcell hglS.out hon).2.2.2
          have hfin := V.fin hkA bB hkS.out hX.out hbw hSS.out
          replace V := hid V
          replace hNA := hid hNA
          replace hkA := hid hkA
          replace bB := hid bB
          replace hfin := hid hfin
          go_wp2_with fail
          have hPN : PN base gd gl on _ (b + 1) := ⟨_, _, _, _, _, _, _, _, _, _, _, _, _, _, _, _, hfin.out.1, by omega, by omega⟩
          exact hN.out _ _ _ _ _ _ _ _ _ _ _ _ _ _ _ _ _ _ _ _ _ _ _ _ _ _ _ _ _ _ _ _ _ _ _ _ _ _ _ _ _ _ _ _ _ _ _ _ _ _ _ _ _ _ _ _ _ _ _ _ _ _ _ _ _ _ _ _ _ _ _ _ _ _ _ _ _ _ _ _ _ _ _ _ _ _ _ _ _ _ _ _ _ _ _ _ _ _ _ _ _ _ _ _ _ _ _ _ _ _ _ _ _ _ _ _ _ _ _ _ _ _ _ _ _ _ _ _ _ _ _ _ _ _ _ _ _ _ _ _ _ _ _ _ _ _ _ _ _ _ _ _ _ _ _ _ _ _ _ _ _ _ _ _ _ _ _ _ _ _ _ _ _ _ _ _ hPN hfin.out.2
        · skip
          have hlag : lagOf 15 12 [8, 9] bb = #[true, true, true, true, true, true, true, true, true, true, true, true, false, false, false] := by rw [show lagOf 15 12 [8, 9] bb = #[true, true, true, true, true, true, true, true, bb 8, bb 9, true, true, false, false, false] from rfl, hb8, hb9]
          clear hat2 hb2
          obtain ⟨b2, c2, q176, hat2, hb2⟩ := (hval 8 _ 176 (fun _ => hb8) rfl rfl).out rfl
          have h176 := (congrFun hf 176).trans q176
          obtain q177 := (hval 9 _ 177 (fun _ => hb9) rfl rfl).out rfl
          have h177 := (congrFun hf 177).trans q177
          change wpAny Try.prog .any _ _ (15 - (lagOf 15 12 [8, 9] bb).toList.count true) (lagOf 15 12 [8, 9] bb) _ _
          rw [hlag]
          clear hlag hdf hsz hkp hval hfa hf
          simp only [fillAll, List.take, List.set_cons_zero, List.set_cons_succ, h168, h175, h24, h25, h176, h177]
          clear h168 h175 h24 h25 h176 h177 q168 q175 q24 q25 q176 q177 hb8 hb9
          have hne : ¬ g40 = g31 := fun e => by rw [e, hz31] at hz40; simp at hz40
          have hne2 : ¬ g31 = g40 := fun e => hne e.symm
          have hz40' : wB.heap[g40]? = some (.cells #[.slice none 0 0, .int .i64 0] 40 (0, 0)) := hz40
          have hz31' : wB.heap[g31]? = some (.cells #[.int .i64 0, .int .i64 0, .int .i64 0, .slice none 0 0] 31 (0, 0)) := hz31
          have y0 : wB.cell? ⟨g40, 0, none⟩ = some (.slice none 0 0) := by simp [World.cell?, hz40']
          have y1 : wB.cell? ⟨g40, 1, none⟩ = some (.int .i64 0) := by simp [World.cell?, hz40']
          have u0 : wB.frozen? ⟨g40, 0, none⟩ = false := by simp [World.frozen?, hz40']
          have u1 : wB.frozen? ⟨g40, 1, none⟩ = false := by simp [World.frozen?, hz40']
          have x0 : wB.cell? ⟨g31, 0, none⟩ = some (.int .i64 0) := by simp [World.cell?, hz31']
          have x1 : wB.cell? ⟨g31, 1, none⟩ = some (.int .i64 0) := by simp [World.cell?, hz31']
          have x2 : wB.cell? ⟨g31, 2, none⟩ = some (.int .i64 0) := by simp [World.cell?, hz31']
          have x3 : wB.cell? ⟨g31, 3, none⟩ = some (.slice none 0 0) := by simp [World.cell?, hz31']
          have v0 : wB.frozen? ⟨g31, 0, none⟩ = false := by simp [World.frozen?, hz31']
          have v1 : wB.frozen? ⟨g31, 1, none⟩ = false := by simp [World.frozen?, hz31']
          have v2 : wB.frozen? ⟨g31, 2, none⟩ = false := by simp [World.frozen?, hz31']
          have v3 : wB.frozen? ⟨g31, 3, none⟩ = false := by simp [World.frozen?, hz31']
          have hzz : ∀ k, (k = g40 ∨ k = g31) → ZB wB k ∧ wA.heap.size ≤ k := fun k e => by
            rcases e with rfl | rfl
            · exact ⟨.inl hz40', hg40⟩
            · exact ⟨.inr hz31', hg31⟩
          have hkS := six_cells wB g40 g31 (.slice a1 n1 c1) (.int .i64 (last : Int)) (.int .i64 X0) (.int .i64 X1) (.int .i64 X2) (.slice b2 B.length c2)
          have hSS := hid (hS.news hkS hzz (fun q hq x hx => hNA.bodies.lt q hq x hx) hNA.lt hNA.own.lt)
          have hrb := six_r wB g40 g31 hne hz40' (.slice a1 n1 c1) (.int .i64 (last : Int)) (.int .i64 X0) (.int .i64 X1) (.int .i64 X2) (.slice b2 B.length c2)
          have hpb := six_p wB g40 g31 hne hz31' (.slice a1 n1 c1) (.int .i64 (last : Int)) (.int .i64 X0) (.int .i64 X1) (.int .i64 X2) (.slice b2 B.length c2)
          have hat2S := hat2.kp hkS (fun x hx e => by have h1 := (hb2 x hx).1; have h2 := (hzz _ e).2; have h3 := hkA.size; omega)
          have hglB : ¬ gl = g40 ∧ ¬ gl = g31 := ⟨fun e => by have h1 := V.llt; have h3 := hkA.size; omega, fun e => by have h1 := V.llt; have h3 := hkA.size; omega⟩
          have hglS := hkS.block gl (by have h1 := V.llt; have h3 := hkA.size; have h4 := bB.size; omega) (fun e => by rcases e with e | e; exact hglB.1 e; exact hglB.2 e)
          rw [bB.block gl (by have h1 := V.llt; have h3 := hkA.size; omega), V.gla hkA] at hglS
          have hX : ∀ k, (k = g40 ∨ k = g31) → w.heap.size ≤ k := fun k e => Nat.le_trans hkA.size (hzz k e).2
          have hgg : gl < wB.heap.size ∧ g40 < wB.heap.size ∧ g31 < wB.heap.size := ⟨by have h1 := V.llt; have h3 := hkA.size; have h4 := bB.size; omega, hl40, hl31⟩
          replace hS := hid hS
          replace hat2 := hid hat2
          replace hb2 := hid hb2
          replace hz40 := hid hz40
          replace hz31 := hid hz31
          replace hz40' := hid hz40'
          replace hz31' := hid hz31'
          replace hzz := hid hzz
          replace hkS := hid hkS
          replace hrb := hid hrb
          replace hpb := hid hpb
          replace hat2S := hid hat2S
          replace hglS := hid hglS
          replace hX := hid hX
          replace hglB := hid hglB
          replace V := hid V
          replace hNA := hid hNA
          replace hkA := hid hkA
          replace bB := hid bB
          try clear kR
          change wpAny Try.prog .any _ _ (2 + 1) _ _ _
          refine wpAny_ready (rs := [12]) (by kernel_rfl) (by simp) ?_
          refine AllReady.cons rfl (fun K hK => ?_) AllReady.nil
          go_simp
          refine hK _ _ ?_
          clear hK K
          change wpAny Try.prog .any _ _ (1 + 1) _ _ _
          refine wpAny_ready (rs := [13]) (by kernel_rfl) (by simp) ?_
          refine AllReady.cons rfl (fun K hK => ?_) AllReady.nil
          go_simp
          refine hK _ _ ?_
          clear hK K
          change wpAny Try.prog .any _ _ (0 + 1) _ _ _
          refine wpAny_ready (rs := [14]) (by kernel_rfl) (by simp) ?_
          refine AllReady.cons rfl (fun K hK => ?_) AllReady.nil
          go_simp
          refine hK _ _ ?_
          clear hK K
          refine wpAny_done (by kernel_rfl) ?_ _
          replace V := V.out
          replace hNA := hNA.out
          replace hkA := hkA.out
          replace bB := bB.out
          clear y0 y1 u0 u1 x0 x1 x2 x3 v0 v1 v2 v3 hne hne2
          generalize (((((wB.setCell ⟨g40, 0, none⟩ (.slice a1 n1 c1)).setCell ⟨g40, 1, none⟩ (.int .i64 (last : Int))).setCell ⟨g31, 0, none⟩ (.int .i64 X0)).setCell ⟨g31, 1, none⟩ (.int .i64 X1)).setCell ⟨g31, 2, none⟩ (.int .i64 X2)).setCell ⟨g31, 3, none⟩ (.slice b2 B.length c2) = wS at *
          have r0 := hrb.out.cell0
          have r1 := hrb.out.cell1
          have l0 := (lcell hglS.out hon).1
          have l1 := (lcell hglS.out hon).2.1
          have k0 := (lcell hglS.out hon).2.2.1
          have k1 := (lcell hglS.out hon).2.2.2
          have hfin := V.fin hkA bB hkS.out hX.out hbw hSS.out
          replace V := hid V
          replace hNA := hid hNA
          replace hkA := hid hkA
          replace bB := hid bB
          replace hfin := hid hfin
          go_wp2_with fail
          have hPN : PN base gd gl on _ (b + 1) := ⟨_, _, _, _, _, _, _, _, _, _, _, _, _, _, _, _, hfin.out.1, by omega, by omega⟩
          exact hN.out _ _ _ _ _ _ _ _ _ _ _ _ _ _ _ _ _ _ _ _ _ _ _ _ _ _ _ _ _ _ _ _ _ _ _ _ _ _ _ _ _ _ _ _ _ _ _ _ _ _ _ _ _ _ _ _ _ _ _ _ _ _ _ _ _ _ _ _ _ _ _ _ _ _ _ _ _ _ _ _ _ _ _ _ _ _ _ _ _ _ _ _ _ _ _ _ _ _ _ _ _ _ _ _ _ _ _ _ _ _ _ _ _ _ _ _ _ _ _ _ _ _ _ _ _ _ _ _ _ _ _ _ _ _ _ _ _ _ _ _ _ _ _ _ _ _ _ _ _ _ _ _ _ _ _ _ _ _ _ _ _ _ _ _ _ _ _ _ _ _ _ _ _ _ _ _ hPN hfin.out.2

end Go.Proofs.Ytgjjgfppolmkoaa
