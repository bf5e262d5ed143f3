/- NetPlays: Deliver. -/
import Derived.Test.YtgjjgfppolmkoaaPlaysC3
namespace Go.Proofs.Ytgjjgfppolmkoaa
open Go.RowKit Go.Maps
set_option linter.unusedVariables false

theorem two_gl (w : World) (gl on : Nat) (x y : Value) : Kp (fun k => k = gl) w ((w.setCell ⟨gl, on * 2, none⟩ x).setCell ⟨gl, on * 2 + 1, none⟩ y) :=
  ((Kp.refl (fun k => k = gl) w).setCell (p := ⟨gl, on * 2, none⟩) rfl x).setCell (p := ⟨gl, on * 2 + 1, none⟩) rfl y
theorem At.new {S : Nat → Prop} {w w1 w' : World} {a : Option Addr} {l : List UInt8} (h : At w a l) (hk : Kp S w1 w') (hb : Below w.heap.size w w1) (hS : ∀ k, S k → w.heap.size ≤ k) : At w' a l := by
  by_cases hl : l = []
  · rw [hl]; exact at_nil _ _
  · obtain ⟨b, o, e, hc⟩ := h hl
    have hlt := World.block_lt_of_cell? _ _ (hc 0 (List.length_pos_iff.2 hl))
    refine (h.below hb).kp hk fun x hx hs => ?_
    rw [e] at hx
    cases hx
    have h1 := hS _ hs
    dsimp only at h1 hlt
    omega
theorem PBlk.lt' {w : World} {g : Nat} {x y z s : Value} (h : PBlk w g x y z s) : g < w.heap.size := (Array.getElem?_eq_some_iff.1 h).1

def pv23 (gd on p g9 : Nat) (num : Int) : List Value := [.int .i64 (on : Int), .pointer (some ⟨gd, on, none⟩), .pointer (some ⟨p, 0, none⟩), .pointer (some ⟨g9, 5, none⟩), .int .i64 num, undef, undef, undef, undef, undef]

def pv24 (gl on n c last g9 : Nat) (a : Option Addr) (num : Int) : List Value := [.int .i64 (on : Int), .pointer (some ⟨gl, on * 2, none⟩), .agg #[.slice a n c, .int .i64 (last : Int)], .pointer (some ⟨g9, 5, none⟩), .int .i64 num, undef, undef, undef, undef, undef, undef, undef]

set_option maxRecDepth 1000000 in
set_option maxHeartbeats 8000000 in
theorem plays_w2 {F : Act → World → Prop} {w : World} {base gd gl g9 on b : Nat} {kind onv fr to num : Int} {ba : Option Addr} {len bc : Nat} {body : List UInt8} {c0 c1 c2 c3 c4 c7 c8 c12 c13 c14 c15 c16 c17 c18 c19 c20 c21 c22 c23 c24 c25 c26 c27 c28 c29 c30 c31 c32 c33 c34 c35 c36 c37 c38 c39 c40 c41 c42 c43 c44 c45 c46 c47 c48 c49 c50 c51 c52 c53 c54 c55 c56 c57 c58 c59 c60 c61 c62 c63 c64 c65 c66 c67 c68 c69 c70 c71 c72 c73 c74 c76 c77 c78 c79 c80 c81 c82 c83 c84 c85 c86 c87 c88 c89 c90 c91 c92 c93 c94 c95 c96 c97 c98 c99 c100 c101 c102 c103 c104 c105 c106 c107 c108 c109 c110 c111 c112 c113 c114 c115 c116 c117 c118 c119 c120 c121 c122 c123 c124 c125 c126 c127 c128 c129 c130 c131 c132 c133 c134 c135 c136 c137 c138 c139 c140 c141 c142 c143 c144 c145 c146 c147 c148 c149 c150 c151 c152 c153 c154 c155 c156 c157 c158 c159 c160 c161 c162 c163 c164 c165 c166 c167 c168 c169 c170 c171 c172 c173 c174 c175 c176 c177 c178 c179 c180 c181 c182 c183 c184 c185 c186 c187 c188 c189 c190 c191 c192 c193 c194 c195 c196 c197 c198 c199 c200 c201 c202 c203 c204 c205 c206 c207 c208 c209 c210 c211 c212 c213 c214 c215 c216 c217 c218 c219 c220 c221 c222 c223 c224 c225 c226 c227 c228 c229 c230 c231 c232 c233 c234 c235 c236 c237 c238 c239 c240 c241 c242 c243 c244 c245 c246 c247 c248 c249 c250 c251 c252 c253 c254 c255 c256 c257 c258 c259 c260 c261 c262 c263 : Value}
    (hP : Hid (PO base gd gl g9 on w b)) (hb : b ≤ 1000) (h9 : Hid (O9 w g9 kind onv fr to ba len bc num)) (hl : Hid (body.length = len)) (hlen : len ≤ 140737488355328) (hat : Hid (At w ba body)) (hba : Hid (body ≠ [] → ∀ x, ba = some x → x.block < base)) (hnum : Hid ((Lit.int .i64 num).wf = true)) (hkind : kind = 2)
    (hN : Hid (∀ (d12 d13 d14 d15 d16 d17 d18 d19 d20 d21 d22 d23 d24 d25 d26 d27 d28 d29 d30 d31 d76 d77 d78 d79 d80 d81 d82 d83 d84 d85 d86 d87 d88 d89 d90 d91 d92 d93 d94 d95 d96 d97 d98 d99 d100 d101 d102 d103 d104 d105 d106 d107 d108 d109 d110 d111 d112 d113 d114 d115 d116 d117 d118 d119 d120 d121 d122 d123 d124 d125 d126 d127 d128 d129 d130 d131 d132 d133 d134 d135 d136 d137 d138 d139 d140 d141 d142 d143 d144 d145 d146 d147 d148 d149 d150 d151 d152 d153 d154 d155 d156 d157 d158 d159 d160 d161 d162 d163 d164 d165 d166 d167 d168 d169 d170 d171 d172 d173 d174 d175 d176 d177 d178 d179 d180 d181 d182 d183 d184 d185 d186 d187 d188 d189 d190 d191 d192 d193 d194 d195 d196 d197 d198 d199 d200 d201 d202 d203 d204 d205 d206 d207 d208 d209 d210 d211 d212 d213 d214 d215 d216 d217 d218 d219 d220 d221 d222 d223 d224 d225 d226 d227 d228 d229 d230 : Value) (wE : World), PN base gd gl on wE (b + 1) → Below base w wE → F ⟨#[c0, c1, c2, c3, c4, .pointer (some ⟨gd, 0, none⟩), .pointer (some ⟨gl, 0, none⟩), c7, c8, .pointer (some ⟨g9, 0, none⟩), .int .i64 (on : Int), .bool true, d12, d13, d14, d15, d16, d17, d18, d19, d20, d21, d22, d23, d24, d25, d26, d27, d28, d29, d30, d31, c32, c33, c34, c35, c36, c37, c38, c39, c40, c41, c42, c43, c44, c45, c46, c47, c48, c49, c50, c51, c52, c53, c54, c55, c56, c57, c58, c59, c60, c61, c62, c63, c64, c65, c66, c67, c68, c69, c70, c71, c72, c73, c74, .int .i64 kind, d76, d77, d78, d79, d80, d81, d82, d83, d84, d85, d86, d87, d88, d89, d90, d91, d92, d93, d94, d95, d96, d97, d98, d99, d100, d101, d102, d103, d104, d105, d106, d107, d108, d109, d110, d111, d112, d113, d114, d115, d116, d117, d118, d119, d120, d121, d122, d123, d124, d125, d126, d127, d128, d129, d130, d131, d132, d133, d134, d135, d136, d137, d138, d139, d140, d141, d142, d143, d144, d145, d146, d147, d148, d149, d150, d151, d152, d153, d154, d155, d156, d157, d158, d159, d160, d161, d162, d163, d164, d165, d166, d167, d168, d169, d170, d171, d172, d173, d174, d175, d176, d177, d178, d179, d180, d181, d182, d183, d184, d185, d186, d187, d188, d189, d190, d191, d192, d193, d194, d195, d196, d197, d198, d199, d200, d201, d202, d203, d204, d205, d206, d207, d208, d209, d210, d211, d212, d213, d214, d215, d216, d217, d218, d219, d220, d221, d222, d223, d224, d225, d226, d227, d228, d229, d230, c231, c232, c233, c234, c235, c236, c237, c238, c239, c240, c241, c242, c243, c244, c245, c246, c247, c248, c249, c250, c251, c252, c253, c254, c255, c256, c257, c258, c259, c260, c261, c262, c263], []⟩ wE)) :
    Code.wp Try.prog ((Try.f4.body.bind (blkAt 4)).getD .skip) (Nrm F) ⟨#[c0, c1, c2, c3, c4, .pointer (some ⟨gd, 0, none⟩), .pointer (some ⟨gl, 0, none⟩), c7, c8, .pointer (some ⟨g9, 0, none⟩), .int .i64 (on : Int), .bool true, c12, c13, c14, c15, c16, c17, c18, c19, c20, c21, c22, c23, c24, c25, c26, c27, c28, c29, c30, c31, c32, c33, c34, c35, c36, c37, c38, c39, c40, c41, c42, c43, c44, c45, c46, c47, c48, c49, c50, c51, c52, c53, c54, c55, c56, c57, c58, c59, c60, c61, c62, c63, c64, c65, c66, c67, c68, c69, c70, c71, c72, c73, c74, .int .i64 kind, c76, c77, c78, c79, c80, c81, c82, c83, c84, c85, c86, c87, c88, c89, c90, c91, c92, c93, c94, c95, c96, c97, c98, c99, c100, c101, c102, c103, c104, c105, c106, c107, c108, c109, c110, c111, c112, c113, c114, c115, c116, c117, c118, c119, c120, c121, c122, c123, c124, c125, c126, c127, c128, c129, c130, c131, c132, c133, c134, c135, c136, c137, c138, c139, c140, c141, c142, c143, c144, c145, c146, c147, c148, c149, c150, c151, c152, c153, c154, c155, c156, c157, c158, c159, c160, c161, c162, c163, c164, c165, c166, c167, c168, c169, c170, c171, c172, c173, c174, c175, c176, c177, c178, c179, c180, c181, c182, c183, c184, c185, c186, c187, c188, c189, c190, c191, c192, c193, c194, c195, c196, c197, c198, c199, c200, c201, c202, c203, c204, c205, c206, c207, c208, c209, c210, c211, c212, c213, c214, c215, c216, c217, c218, c219, c220, c221, c222, c223, c224, c225, c226, c227, c228, c229, c230, c231, c232, c233, c234, c235, c236, c237, c238, c239, c240, c241, c242, c243, c244, c245, c246, c247, c248, c249, c250, c251, c252, c253, c254, c255, c256, c257, c258, c259, c260, c261, c262, c263], []⟩ w := by
  conv => arg 2; whnf
  obtain ⟨p, m, L, last, a, n, c, R, p', m', L', last', a', n', c', R', V, hb1, hb2, hT9⟩ := hP.out
  subst hkind
  have hon := V.on2
  have hon0 : (0 : Int) ≤ (on : Int) := by omega
  have hon2 : (on : Int) < 2 := by omega
  have hbw : base ≤ w.heap.size := by have h1 := V.bs.1; have h2 := V.sd.net.lt; omega

  obtain ⟨ec, X0, X1, X2, B, L1, hsub, kD, _, kR⟩ := del_both V num hnum.out
  have hTW : ∀ k, Turn p m k → k < w.heap.size := fun k e => by
    rcases e with e | e
    · rw [e]; exact V.sd.net.lt
    · rw [e]; exact V.sd.net.own.lt
  replace V := hid V
  replace kD := hid kD
  replace kR := hid kR
  replace hsub := hid hsub
  replace hTW := hid hTW
  go_wp2_with fail
  replace V := V.out
  replace kD := kD.out
  replace hTW := hTW.out
  refine wp_region_lag 10 [8] (Bf := TB w) (Af := TA w p m L1 last) (C := 5) (Pr := PrV (pv23 gd on p g9 num) [5, 6, 7, 8, 9] (R23 w.heap.size X0 X1 X2 B ec)) (by kernel_rfl) (by kernel_rfl) (by decide) (by decide) (by decide) (drew_below _) ?_ (by kernel_rfl) ?_
  · refine ⟨?_, ?_, ?_, ?_, ?_, ?_, ?_, ?_, ?_, ?_, trivial⟩
    · exact fun ac w hC hBA hd hk K hK => yes (want_n rfl) (wp_mv _ rfl _ (get_keep (hk 10 (no_dst (by kernel_rfl))) rfl) (hK _ w (PrV.is rfl rfl) (fun e => absurd e (by decide)) (fun _ => ⟨id, id⟩) (fun _ _ _ h => h)))
    · intro ac w hC hBA hd hk K hK
      have e5 : ac.tmps[5]?.getD undef = (.pointer (some ⟨gd, 0, none⟩) : Value) := slot (get_keep (hk 5 (no_dst (by kernel_rfl))) rfl)
      have e129 : ac.tmps[129]?.getD undef = (.int .i64 (on : Int) : Value) := slot ((hd 0 _ 129 rfl rfl rfl).val rfl)
      refine yes (want_n rfl) ?_
      have hv := hid (hK (.pointer (some ⟨gd, on, none⟩)) w (PrV.is rfl rfl) (fun e => absurd e (by decide)) (fun _ => ⟨id, id⟩) (fun _ _ _ h => h))
      clear hK hC hBA hd hk
      go_simp
      refine kq hv.out ?_
      rfl
    · intro ac w hC hBA hd hk K hK
      have e130 : ac.tmps[130]?.getD undef = (.pointer (some ⟨gd, on, none⟩) : Value) := slot ((hd 1 _ 130 rfl rfl rfl).val rfl)
      have x0 := V.dk (tba hBA)
      refine yes (want_n rfl) ?_
      have hv := hid (hK (.pointer (some ⟨p, 0, none⟩)) w (PrV.is rfl rfl) (fun e => absurd e (by decide)) (fun _ => ⟨id, id⟩) (fun _ _ _ h => h))
      clear hK hC hBA hd hk
      go_simp
      refine kq hv.out ?_
      rfl
    · intro ac w hC hBA hd hk K hK
      have e9 : ac.tmps[9]?.getD undef = (.pointer (some ⟨g9, 0, none⟩) : Value) := slot (get_keep (hk 9 (no_dst (by kernel_rfl))) rfl)
      refine yes (want_n rfl) ?_
      have hv := hid (hK (.pointer (some ⟨g9, 5, none⟩)) w (PrV.is rfl rfl) (fun e => absurd e (by decide)) (fun _ => ⟨id, id⟩) (fun _ _ _ h => h))
      clear hK hC hBA hd hk
      go_simp
      refine kq hv.out ?_
      rfl
    · intro ac w hC hBA hd hk K hK
      have e132 : ac.tmps[132]?.getD undef = (.pointer (some ⟨g9, 5, none⟩) : Value) := slot ((hd 3 _ 132 rfl rfl rfl).val rfl)
      have x0 := (h9.out.kt hT9 (tba hBA)).cells.2.2.2
      refine yes (want_n rfl) ?_
      have hv := hid (hK (.int .i64 num) w (PrV.is rfl rfl) (fun e => absurd e (by decide)) (fun _ => ⟨id, id⟩) (fun _ _ _ h => h))
      clear hK hC hBA hd hk
      go_simp
      refine kq hv.out ?_
      rfl
    · intro ac w hC hBA hd hk K hK
      refine yes (want_n rfl) ?_
      refine wp_callv 13 _ _ rfl _ Try.func13 rfl rfl _ (args2 ((hd 2 _ 131 rfl rfl rfl).val rfl) ((hd 4 _ 133 rfl rfl rfl).val rfl)) (kD w (hC rfl)) ?_
      rintro e w' ⟨b1, cq, rfl, hat1, hb1, hN1, hk1⟩
      exact ⟨_, rfl, hK _ w' (PrV.by rfl ⟨b1, cq, rfl, hat1, fun x hx => Nat.le_trans (Below.size (hC rfl)) (hb1 x hx)⟩) (fun _ => ⟨hN1, (Kp.of_below (hC rfl)).trans hk1⟩) (fun h => absurd rfl h) (fun j u hj h => PrV.mono2 (R23.kp hk1 hTW) h)⟩
    · intro ac w hC hBA hd hk K hK
      obtain ⟨b1, cq, e1, hat1, hb1⟩ := ((hd 5 _ 134 rfl rfl rfl).out rfl)
      exact yes (want_n rfl) (wp_mv _ rfl _ e1 (hK _ w (PrV.by rfl ⟨b1, cq, rfl, hat1, hb1⟩) (fun e => absurd e (by decide)) (fun _ => ⟨id, id⟩) (fun _ _ _ h => h)))
    · intro ac w hC hBA hd hk K hK
      obtain ⟨b1, cq, e1, hat1, hb1⟩ := ((hd 6 _ 128 rfl rfl rfl).out rfl)
      have e2 := slot e1
      refine yes (want_n rfl) ?_
      have hv := hid (hK (.agg #[.int .i64 X0, .int .i64 X1, .int .i64 X2, .slice b1 B.length cq]) w (PrV.by rfl ⟨b1, cq, rfl, hat1, hb1⟩) (fun e => absurd e (by decide)) (fun _ => ⟨id, id⟩) (fun _ _ _ h => h))
      clear hK hC hBA hd hk
      go_simp
      exact hv.out
    · intro ac w hC hBA hd hk K hK
      obtain ⟨b1, cq, e1, hat1, hb1⟩ := ((hd 6 _ 128 rfl rfl rfl).out rfl)
      have e2 := slot e1
      refine yes (want_n rfl) ?_
      have hv := hid (hK (.int .i64 ec) w (PrV.by rfl rfl) (fun e => absurd e (by decide)) (fun _ => ⟨id, id⟩) (fun _ _ _ h => h))
      clear hK hC hBA hd hk
      go_simp
      exact hv.out
    · intro ac w hC hBA hd hk K hK
      have hbl := below_lit w (.cells z31 31)
      have hsz := (tba hBA).size
      have hv := hid (hK (.pointer (some ⟨w.heap.size, 0, none⟩)) (w.alloc (.cells z31 31)) (PrV.by rfl ⟨w.heap.size, rfl, hsz, by rw [World.size_alloc]; omega, heap_alloc_new w _⟩) (fun e => absurd e (by decide)) (fun _ => ⟨fun h => bnext h hbl, fun h => ⟨h.1.below hbl, h.2.then hbl⟩⟩) (fun j u hj h => PrV.mono2 (R23.below hbl) h))
      refine yes (want_n rfl) ?_
      clear hK hC hBA hd hk
      go_simp
      exact hv.out
  · intro bb ac wX hdf hsz hkp hval hAf
    obtain ⟨b0, cz, q128, _, _⟩ := (hval 6 _ 128 (fun h => absurd h (by decide)) rfl rfl).out rfl
    obtain ⟨b1, cq, q135, hat1, hb1⟩ := (hval 7 _ 135 (fun h => absurd h (by decide)) rfl rfl).out rfl
    obtain ⟨g18, q18, hg18, hl18, hz18⟩ := (hval 9 _ 18 (fun h => absurd h (by decide)) rfl rfl).out rfl
    obtain ⟨f, hf⟩ : ∃ f, f = fun d => ac.tmps.getD d undef := ⟨_, rfl⟩
    have h128 := (congrFun hf 128).trans q128
    have h135 := (congrFun hf 135).trans q135
    have h18 := (congrFun hf 18).trans q18
    have hfa := act_filled hdf hsz hkp
    rw [← hf] at hfa
    rw [hfa]
    cases hb8 : bb 8
    · skip
      have hlag : lagOf 12 10 [8] bb = #[true, true, true, true, true, true, true, true, false, true, false, false] := by rw [show lagOf 12 10 [8] bb = #[true, true, true, true, true, true, true, true, bb 8, true, false, false] from rfl, hb8]
      change wpAny Try.prog .any _ _ (12 - (lagOf 12 10 [8] bb).toList.count true) (lagOf 12 10 [8] bb) _ _
      rw [hlag]
      clear hlag hdf hsz hkp hval hfa hf
      simp only [fillAll, List.take, List.set_cons_zero, List.set_cons_succ, h128, h135, h18]
      clear h128 h135 h18 q128 q135 q18 hb8
      obtain ⟨hN0, hk0⟩ := hAf
      clear kD
      have hz18' : wX.heap[g18]? = some (.cells #[.int .i64 0, .int .i64 0, .int .i64 0, .slice none 0 0] 31 (0, 0)) := hz18
      have x0 : wX.cell? ⟨g18, 0, none⟩ = some (.int .i64 0) := by simp [World.cell?, hz18']
      have x1 : wX.cell? ⟨g18, 1, none⟩ = some (.int .i64 0) := by simp [World.cell?, hz18']
      have x2 : wX.cell? ⟨g18, 2, none⟩ = some (.int .i64 0) := by simp [World.cell?, hz18']
      have x3 : wX.cell? ⟨g18, 3, none⟩ = some (.slice none 0 0) := by simp [World.cell?, hz18']
      have v0 : wX.frozen? ⟨g18, 0, none⟩ = false := by simp [World.frozen?, hz18']
      have v1 : wX.frozen? ⟨g18, 1, none⟩ = false := by simp [World.frozen?, hz18']
      have v2 : wX.frozen? ⟨g18, 2, none⟩ = false := by simp [World.frozen?, hz18']
      have v3 : wX.frozen? ⟨g18, 3, none⟩ = false := by simp [World.frozen?, hz18']
      have hk4 := four_cells wX g18 (.int .i64 X0) (.int .i64 X1) (.int .i64 X2) (.slice b1 B.length cq)
      have hp18 := hid (four_p hz18' (.int .i64 X0) (.int .i64 X1) (.int .i64 X2) (.slice b1 B.length cq))
      have hNA := hN0.kp hk4 (fun e => by have h1 := V.sd.net.lt; omega) (fun e => by have h1 := V.sd.net.own.lt; omega) (fun q hq x hx e => by have h1 := V.sd.net.bodies.lt q (hsub.out q hq) x hx; omega)
      have hkA := hk0.next hk4 (fun i hi e => by omega)
      have hat1A := hid (hat1.zb hk4 (.inr hz18'))
      have hb1n := hid (show ∀ x, b1 = some x → ¬ x.block = gl from fun x hx e => by have h1 := hb1 x hx; have h2 := V.llt; omega)
      clear hat1
      have hat1 := hat1A
      clear hat1A
      replace V := hid V
      replace hNA := hid hNA
      replace hkA := hid hkA
      replace hz18 := hid hz18
      replace hz18' := hid hz18'
      replace hk4 := hid hk4
      replace hN0 := hid hN0
      replace hk0 := hid hk0
      change wpAny Try.prog .any _ _ (2 + 1) _ _ _
      refine wpAny_take (i := 8) (v := .int .i64 ec) rfl (by kernel_rfl) (by kernel_rfl) (by kernel_rfl) (fun _ _ _ h => h) (Or.inl ⟨by rfl, ?_⟩) ?_
      · intro w
        go_simp
      change wpAny Try.prog .any _ _ (1 + 1) _ _ _
      refine wpAny_ready (rs := [10]) (by kernel_rfl) (by simp) ?_
      refine AllReady.cons rfl (fun K hK => ?_) AllReady.nil
      go_simp
      refine hK _ _ ?_
      clear hK K
      change wpAny Try.prog .any _ _ (0 + 1) _ _ _
      refine wpAny_ready (rs := [11]) (by kernel_rfl) (by simp) ?_
      refine AllReady.cons rfl (fun K hK => ?_) AllReady.nil
      go_simp
      refine hK _ _ ?_
      clear hK K
      refine wpAny_done (by kernel_rfl) ?_ _
      clear x0 x1 x2 x3 v0 v1 v2 v3
      generalize (((wX.setCell ⟨g18, 0, none⟩ (.int .i64 X0)).setCell ⟨g18, 1, none⟩ (.int .i64 X1)).setCell ⟨g18, 2, none⟩ (.int .i64 X2)).setCell ⟨g18, 3, none⟩ (.slice b1 B.length cq) = wA at *
      clear hk4
      go_wp2_with fail
      replace V := V.out
      replace hNA := hNA.out
      replace hkA := hkA.out
      replace kR := kR.out
      refine wp_region_lag 12 [8, 9] (Bf := (fun w' => Below wA.heap.size wA w')) (Af := (fun w' => Below wA.heap.size wA w')) (C := 5) (Pr := PrV (pv24 gl on n c last g9 a num) [5, 6, 7, 8, 9, 10, 11] (R20 (T6 p m p' m' gd gl) w.heap.size wA.heap.size p m L1 last X0 X1 X2 B ec)) (by kernel_rfl) (by kernel_rfl) (by decide) (by decide) (by decide) (drew_below _) ?_ (by kernel_rfl) ?_
      · refine ⟨?_, ?_, ?_, ?_, ?_, ?_, ?_, ?_, ?_, ?_, ?_, ?_, trivial⟩
        · exact fun ac w hC hBA hd hk K hK => yes (want_n rfl) (wp_mv _ rfl _ (get_keep (hk 10 (no_dst (by kernel_rfl))) rfl) (hK _ w (PrV.is rfl rfl) (fun e => absurd e (by decide)) (fun _ => ⟨id, id⟩) (fun _ _ _ h => h)))
        · intro ac w hC hBA hd hk K hK
          have e6 : ac.tmps[6]?.getD undef = (.pointer (some ⟨gl, 0, none⟩) : Value) := slot (get_keep (hk 6 (no_dst (by kernel_rfl))) rfl)
          have e138 : ac.tmps[138]?.getD undef = (.int .i64 (on : Int) : Value) := slot ((hd 0 _ 138 rfl rfl rfl).val rfl)
          refine yes (want_n rfl) ?_
          have hv := hid (hK (.pointer (some ⟨gl, on * 2, none⟩)) w (PrV.is rfl rfl) (fun e => absurd e (by decide)) (fun _ => ⟨id, id⟩) (fun _ _ _ h => h))
          clear hK hC hBA hd hk
          go_simp
          refine kq hv.out ?_
          rfl
        · intro ac w hC hBA hd hk K hK
          have e139 : ac.tmps[139]?.getD undef = (.pointer (some ⟨gl, on * 2, none⟩) : Value) := slot ((hd 1 _ 139 rfl rfl rfl).val rfl)
          have x := V.lk (hkA.then (hBA.elim id id))
          have x0 := x.1
          have x1 := x.2
          clear x
          refine yes (want_n rfl) ?_
          have hv := hid (hK (.agg #[.slice a n c, .int .i64 (last : Int)]) w (PrV.is rfl rfl) (fun e => absurd e (by decide)) (fun _ => ⟨id, id⟩) (fun _ _ _ h => h))
          clear hK hC hBA hd hk
          go_simp
          refine kq hv.out ?_
          rfl
        · intro ac w hC hBA hd hk K hK
          have e9 : ac.tmps[9]?.getD undef = (.pointer (some ⟨g9, 0, none⟩) : Value) := slot (get_keep (hk 9 (no_dst (by kernel_rfl))) rfl)
          refine yes (want_n rfl) ?_
          have hv := hid (hK (.pointer (some ⟨g9, 5, none⟩)) w (PrV.is rfl rfl) (fun e => absurd e (by decide)) (fun _ => ⟨id, id⟩) (fun _ _ _ h => h))
          clear hK hC hBA hd hk
          go_simp
          refine kq hv.out ?_
          rfl
        · intro ac w hC hBA hd hk K hK
          have e141 : ac.tmps[141]?.getD undef = (.pointer (some ⟨g9, 5, none⟩) : Value) := slot ((hd 3 _ 141 rfl rfl rfl).val rfl)
          have x0 := (h9.out.kt hT9 (hkA.then (hBA.elim id id))).cells.2.2.2
          refine yes (want_n rfl) ?_
          have hv := hid (hK (.int .i64 num) w (PrV.is rfl rfl) (fun e => absurd e (by decide)) (fun _ => ⟨id, id⟩) (fun _ _ _ h => h))
          clear hK hC hBA hd hk
          go_simp
          refine kq hv.out ?_
          rfl
        · intro ac w hC hBA hd hk K hK
          refine yes (want_n rfl) ?_
          refine wp_callv 20 _ _ rfl _ Try.func20 rfl rfl _ (args2 ((hd 2 _ 140 rfl rfl rfl).val rfl) ((hd 4 _ 142 rfl rfl rfl).val rfl)) (kR w (hNA.below (hC rfl)) (hkA.then (hC rfl))) ?_
          rintro e w' ⟨a1, n1, c1, R1, b2, c2, rfl, hat2, hb2, hS, _, hbw⟩
          exact ⟨_, rfl, hK _ w' (PrV.by rfl ⟨a1, n1, c1, R1, b2, c2, rfl, hS, hat2, hb2⟩) (fun _ => bnext (hC rfl) hbw) (fun h => absurd rfl h) (fun j u hj h => PrV.mono2 (R20.below hbw) h)⟩
        · intro ac w hC hBA hd hk K hK
          obtain ⟨a1, n1, c1, R1, b2, c2, e1, hS, hat2, hb2⟩ := ((hd 5 _ 143 rfl rfl rfl).out rfl)
          exact yes (want_n rfl) (wp_mv _ rfl _ e1 (hK _ w (PrV.by rfl ⟨a1, n1, c1, R1, b2, c2, rfl, hS, hat2, hb2⟩) (fun e => absurd e (by decide)) (fun _ => ⟨id, id⟩) (fun _ _ _ h => h)))
        · intro ac w hC hBA hd hk K hK
          obtain ⟨a1, n1, c1, R1, b2, c2, e1, hS, hat2, hb2⟩ := ((hd 6 _ 137 rfl rfl rfl).out rfl)
          have e2 := slot e1
          refine yes (want_n rfl) ?_
          have hv := hid (hK (.agg #[.slice a1 n1 c1, .int .i64 (last : Int)]) w (PrV.by rfl ⟨a1, n1, c1, R1, rfl, hS⟩) (fun e => absurd e (by decide)) (fun _ => ⟨id, id⟩) (fun _ _ _ h => h))
          clear hK hC hBA hd hk hS
          go_simp
          exact hv.out
        · intro ac w hC hBA hd hk K hK
          obtain ⟨a1, n1, c1, R1, b2, c2, e1, hS, hat2, hb2⟩ := ((hd 6 _ 137 rfl rfl rfl).out rfl)
          have e2 := slot e1
          refine yes (want_n rfl) ?_
          have hv := hid (hK (.agg #[.int .i64 X0, .int .i64 X1, .int .i64 X2, .slice b2 B.length c2]) w (PrV.by rfl ⟨b2, c2, rfl, hat2, hb2⟩) (fun e => absurd e (by decide)) (fun _ => ⟨id, id⟩) (fun _ _ _ h => h))
          clear hK hC hBA hd hk hS
          go_simp
          exact hv.out
        · intro ac w hC hBA hd hk K hK
          obtain ⟨a1, n1, c1, R1, b2, c2, e1, hS, hat2, hb2⟩ := ((hd 6 _ 137 rfl rfl rfl).out rfl)
          have e2 := slot e1
          refine yes (want_n rfl) ?_
          have hv := hid (hK (.int .i64 ec) w (PrV.by rfl rfl) (fun e => absurd e (by decide)) (fun _ => ⟨id, id⟩) (fun _ _ _ h => h))
          clear hK hC hBA hd hk hS
          go_simp
          exact hv.out
        · intro ac w hC hBA hd hk K hK
          have hbl := below_lit w (.cells z40 40)
          have hsz := (hBA.elim id id : Below wA.heap.size wA w).size
          have hv := hid (hK (.pointer (some ⟨w.heap.size, 0, none⟩)) (w.alloc (.cells z40 40)) (PrV.by rfl ⟨w.heap.size, rfl, hsz, by rw [World.size_alloc]; omega, heap_alloc_new w _⟩) (fun e => absurd e (by decide)) (fun _ => ⟨fun h => bnext h hbl, fun h => bnext h hbl⟩) (fun j u hj h => PrV.mono2 (R20.below hbl) h))
          refine yes (want_n rfl) ?_
          clear hK hC hBA hd hk
          go_simp
          exact hv.out
        · intro ac w hC hBA hd hk K hK
          have hbl := below_lit w (.cells z31 31)
          have hsz := (hBA.elim id id : Below wA.heap.size wA w).size
          have hv := hid (hK (.pointer (some ⟨w.heap.size, 0, none⟩)) (w.alloc (.cells z31 31)) (PrV.by rfl ⟨w.heap.size, rfl, hsz, by rw [World.size_alloc]; omega, heap_alloc_new w _⟩) (fun e => absurd e (by decide)) (fun _ => ⟨fun h => bnext h hbl, fun h => bnext h hbl⟩) (fun j u hj h => PrV.mono2 (R20.below hbl) h))
          refine yes (want_n rfl) ?_
          clear hK hC hBA hd hk
          go_simp
          exact hv.out
      · intro bb ac wB hdf hsz hkp hval bB
        obtain ⟨_, _, _, _, b2, c2, q137, _, hat2, hb2⟩ := (hval 6 _ 137 (fun h => absurd h (by decide)) rfl rfl).out rfl
        obtain ⟨a1, n1, c1, R1, q144, hS⟩ := (hval 7 _ 144 (fun h => absurd h (by decide)) rfl rfl).out rfl
        obtain ⟨g40, q20, hg40, hl40, hz40⟩ := (hval 10 _ 20 (fun h => absurd h (by decide)) rfl rfl).out rfl
        obtain ⟨g31, q21, hg31, hl31, hz31⟩ := (hval 11 _ 21 (fun h => absurd h (by decide)) rfl rfl).out rfl
        obtain ⟨f, hf⟩ : ∃ f, f = fun d => ac.tmps.getD d undef := ⟨_, rfl⟩
        have h137 := (congrFun hf 137).trans q137
        have h144 := (congrFun hf 144).trans q144
        have h20 := (congrFun hf 20).trans q20
        have h21 := (congrFun hf 21).trans q21
        have hfa := act_filled hdf hsz hkp
        rw [← hf] at hfa
        rw [hfa]
        cases hb8 : bb 8
        · skip
          cases hb9 : bb 9
          · skip
            have hlag : lagOf 15 12 [8, 9] bb = #[true, true, true, true, true, true, true, true, false, false, true, true, false, false, false] := by rw [show lagOf 15 12 [8, 9] bb = #[true, true, true, true, true, true, true, true, bb 8, bb 9, true, true, false, false, false] from rfl, hb8, hb9]
            change wpAny Try.prog .any _ _ (15 - (lagOf 15 12 [8, 9] bb).toList.count true) (lagOf 15 12 [8, 9] bb) _ _
            rw [hlag]
            clear hlag hdf hsz hkp hval hfa hf
            simp only [fillAll, List.take, List.set_cons_zero, List.set_cons_succ, h137, h144, h20, h21]
            clear h137 h144 h20 h21 q137 q144 q20 q21 hb8 hb9
            have hne : ¬ g40 = g31 := fun e => by rw [e, hz31] at hz40; simp at hz40
            have hne2 : ¬ g31 = g40 := fun e => hne e.symm
            have hz40' : wB.heap[g40]? = some (.cells #[.slice none 0 0, .int .i64 0] 40 (0, 0)) := hz40
            have hz31' : wB.heap[g31]? = some (.cells #[.int .i64 0, .int .i64 0, .int .i64 0, .slice none 0 0] 31 (0, 0)) := hz31
            have y0 : wB.cell? ⟨g40, 0, none⟩ = some (.slice none 0 0) := by simp [World.cell?, hz40']
            have y1 : wB.cell? ⟨g40, 1, none⟩ = some (.int .i64 0) := by simp [World.cell?, hz40']
            have u0 : wB.frozen? ⟨g40, 0, none⟩ = false := by simp [World.frozen?, hz40']
            have u1 : wB.frozen? ⟨g40, 1, none⟩ = false := by simp [World.frozen?, hz40']
            have x0 : wB.cell? ⟨g31, 0, none⟩ = some (.int .i64 0) := by simp [World.cell?, hz31']
            have x1 : wB.cell? ⟨g31, 1, none⟩ = some (.int .i64 0) := by simp [World.cell?, hz31']
            have x2 : wB.cell? ⟨g31, 2, none⟩ = some (.int .i64 0) := by simp [World.cell?, hz31']
            have x3 : wB.cell? ⟨g31, 3, none⟩ = some (.slice none 0 0) := by simp [World.cell?, hz31']
            have v0 : wB.frozen? ⟨g31, 0, none⟩ = false := by simp [World.frozen?, hz31']
            have v1 : wB.frozen? ⟨g31, 1, none⟩ = false := by simp [World.frozen?, hz31']
            have v2 : wB.frozen? ⟨g31, 2, none⟩ = false := by simp [World.frozen?, hz31']
            have v3 : wB.frozen? ⟨g31, 3, none⟩ = false := by simp [World.frozen?, hz31']
            have hzz : ∀ k, (k = g40 ∨ k = g31) → ZB wB k ∧ wA.heap.size ≤ k := fun k e => by
              rcases e with rfl | rfl
              · exact ⟨.inl hz40', hg40⟩
              · exact ⟨.inr hz31', hg31⟩
            have hkS := six_cells wB g40 g31 (.slice a1 n1 c1) (.int .i64 (last : Int)) (.int .i64 X0) (.int .i64 X1) (.int .i64 X2) (.slice b2 B.length c2)
            have hSS := hid (hS.news hkS hzz (fun q hq x hx => hNA.bodies.lt q hq x hx) hNA.lt hNA.own.lt)
            have hrb := six_r wB g40 g31 hne hz40' (.slice a1 n1 c1) (.int .i64 (last : Int)) (.int .i64 X0) (.int .i64 X1) (.int .i64 X2) (.slice b2 B.length c2)
            have hpb := six_p wB g40 g31 hne hz31' (.slice a1 n1 c1) (.int .i64 (last : Int)) (.int .i64 X0) (.int .i64 X1) (.int .i64 X2) (.slice b2 B.length c2)
            have hat2S := hat2.kp hkS (fun x hx e => by have h1 := (hb2 x hx).1; have h2 := (hzz _ e).2; have h3 := hkA.size; omega)
            have hglB : ¬ gl = g40 ∧ ¬ gl = g31 := ⟨fun e => by have h1 := V.llt; have h3 := hkA.size; omega, fun e => by have h1 := V.llt; have h3 := hkA.size; omega⟩
            have hglS := hkS.block gl (by have h1 := V.llt; have h3 := hkA.size; have h4 := bB.size; omega) (fun e => by rcases e with e | e; exact hglB.1 e; exact hglB.2 e)
            rw [bB.block gl (by have h1 := V.llt; have h3 := hkA.size; omega), V.gla hkA] at hglS
            have hX : ∀ k, (k = g40 ∨ k = g31) → w.heap.size ≤ k := fun k e => Nat.le_trans hkA.size (hzz k e).2
            have hgg : gl < wB.heap.size ∧ g40 < wB.heap.size ∧ g31 < wB.heap.size := ⟨by have h1 := V.llt; have h3 := hkA.size; have h4 := bB.size; omega, hl40, hl31⟩
            replace hS := hid hS
            replace hat2 := hid hat2
            replace hb2 := hid hb2
            replace hz40 := hid hz40
            replace hz31 := hid hz31
            replace hz40' := hid hz40'
            replace hz31' := hid hz31'
            replace hzz := hid hzz
            replace hkS := hid hkS
            replace hrb := hid hrb
            replace hpb := hid hpb
            replace hat2S := hid hat2S
            replace hglS := hid hglS
            replace hX := hid hX
            replace hglB := hid hglB
            replace V := hid V
            replace hNA := hid hNA
            replace hkA := hid hkA
            replace bB := hid bB
            try clear kR
            change wpAny Try.prog .any _ _ (4 + 1) _ _ _
            refine wpAny_take (i := 8) (v := .agg #[.int .i64 X0, .int .i64 X1, .int .i64 X2, .slice b2 B.length c2]) rfl (by kernel_rfl) (by kernel_rfl) (by kernel_rfl) (fun _ _ _ h => h) (Or.inl ⟨by rfl, ?_⟩) ?_
            · intro w
              go_simp
            change wpAny Try.prog .any _ _ (3 + 1) _ _ _
            refine wpAny_take (i := 9) (v := .int .i64 ec) rfl (by kernel_rfl) (by kernel_rfl) (by kernel_rfl) (fun _ _ _ h => h) (Or.inl ⟨by rfl, ?_⟩) ?_
            · intro w
              go_simp
            change wpAny Try.prog .any _ _ (2 + 1) _ _ _
            refine wpAny_ready (rs := [12]) (by kernel_rfl) (by simp) ?_
            refine AllReady.cons rfl (fun K hK => ?_) AllReady.nil
            go_simp
            refine hK _ _ ?_
            clear hK K
            change wpAny Try.prog .any _ _ (1 + 1) _ _ _
            refine wpAny_ready (rs := [13]) (by kernel_rfl) (by simp) ?_
            refine AllReady.cons rfl (fun K hK => ?_) AllReady.nil
            go_simp
            refine hK _ _ ?_
            clear hK K
            change wpAny Try.prog .any _ _ (0 + 1) _ _ _
            refine wpAny_ready (rs := [14]) (by kernel_rfl) (by simp) ?_
            refine AllReady.cons rfl (fun K hK => ?_) AllReady.nil
            go_simp
            refine hK _ _ ?_
            clear hK K
            refine wpAny_done (by kernel_rfl) ?_ _
            replace V := V.out
            replace hNA := hNA.out
            replace hkA := hkA.out
            replace bB := bB.out
            clear y0 y1 u0 u1 x0 x1 x2 x3 v0 v1 v2 v3 hne hne2
            generalize (((((wB.setCell ⟨g40, 0, none⟩ (.slice a1 n1 c1)).setCell ⟨g40, 1, none⟩ (.int .i64 (last : Int))).setCell ⟨g31, 0, none⟩ (.int .i64 X0)).setCell ⟨g31, 1, none⟩ (.int .i64 X1)).setCell ⟨g31, 2, none⟩ (.int .i64 X2)).setCell ⟨g31, 3, none⟩ (.slice b2 B.length c2) = wS at *
            have r0 := hrb.out.cell0
            have r1 := hrb.out.cell1
            have l0 := (lcell hglS.out hon).1
            have l1 := (lcell hglS.out hon).2.1
            have k0 := (lcell hglS.out hon).2.2.1
            have k1 := (lcell hglS.out hon).2.2.2
            have hfin := V.fin hkA bB hkS.out hX.out hbw hSS.out
            replace V := hid V
            replace hNA := hid hNA
            replace hkA := hid hkA
            replace bB := hid bB
            replace hfin := hid hfin
            have hp18S := hid (show PBlk wS g18 (.int .i64 X0) (.int .i64 X1) (.int .i64 X2) (.slice b1 B.length cq) from ((hkS.out.block g18 (by have h1 := bB.out.size; have h2 := hp18.out.lt'; omega) (fun e => by have h1 := (hzz.out g18 e).2; have h2 := hp18.out.lt'; omega)).trans (bB.out.block g18 hp18.out.lt')).trans hp18.out)
            have hat1S := hid (hat1.out.new hkS.out bB.out (fun k e => (hzz.out k e).2))
            obtain ⟨s0, s1, s2, s3⟩ := hp18S.out.four
            obtain ⟨t0, t1, t2, t3⟩ := hpb.out.four
            have hn1 : ¬ gl = g18 := fun e => by have h1 := V.out.llt; omega
            have hn2 : ¬ g18 = gl := fun e => hn1 e.symm
            have hn3 : ¬ gl = g31 := hglB.out.2
            have hn4 : ¬ g31 = gl := fun e => hn3 e.symm
            have hz1 := hp18S.out.lt'
            have hz2 := hpb.out.lt'
            have kE := hid (two_gl wS gl on (.slice a1 n1 c1) (.int .i64 (last : Int)))
            have hat1E := hid (hat1S.out.kp kE.out (fun x hx e => by have h1 := hb1n.out x hx; exact h1 e))
            have hat2E := hid (hat2S.out.kp kE.out (fun x hx e => (hb2.out x hx).2 (by simp [T6, e])))
            go_wp2_with fail
            have hsE : ((wS.setCell ⟨gl, on * 2, none⟩ (.slice a1 n1 c1)).setCell ⟨gl, on * 2 + 1, none⟩ (.int .i64 (last : Int))).heap.size = wS.heap.size := by simp [World.setCell]
            generalize (wS.setCell ⟨gl, on * 2, none⟩ (.slice a1 n1 c1)).setCell ⟨gl, on * 2 + 1, none⟩ (.int .i64 (last : Int)) = wE at *
            have bl1 := below_lit wE (.cells #[.int .i64 X0, .int .i64 X1, .int .i64 X2, .slice b1 B.length cq] 31)
            have bl2 := below_lit (wE.alloc (.cells #[.int .i64 X0, .int .i64 X1, .int .i64 X2, .slice b1 B.length cq] 31)) (.cells #[.int .i64 X0, .int .i64 X1, .int .i64 X2, .slice b2 B.length c2] 31)
            have q1 := rat_lit bl2 ((hat1E.out.below bl1).below bl2)
            have q2 := rat_lit (Below.refl _ _) ((hat2E.out.below bl1).below bl2)
            rw [World.size_alloc] at q2
            rw [hsE] at q1 q2
            refine (samep_any (some ⟨wS.heap.size, 0, none⟩) (some ⟨wS.heap.size + 1, 0, none⟩) 1 1 1 [⟨X0, X1, X2, b1, cq, B⟩] [⟨X0, X1, X2, b2, c2, B⟩] _ rfl rfl q1 q2 (by omega)).mono ?_
            rintro e w9 ⟨rfl, b9⟩
            have bE9 := bnext (bnext bl1 bl2) b9
            have hV9 := hid (hfin.out.1.below bE9)
            have hB9 := hid (hfin.out.2.trans (bE9.mono (Nat.le_trans hbw hfin.out.2.size)))
            clear q1 q2 bl1 bl2 b9 s0 s1 s2 s3 t0 t1 t2 t3
            go_wp2_with fail
            have hPN : PN base gd gl on w9 (b + 1) := ⟨_, _, _, _, _, _, _, _, _, _, _, _, _, _, _, _, hV9.out, by omega, by omega⟩
            exact hN.out _ _ _ _ _ _ _ _ _ _ _ _ _ _ _ _ _ _ _ _ _ _ _ _ _ _ _ _ _ _ _ _ _ _ _ _ _ _ _ _ _ _ _ _ _ _ _ _ _ _ _ _ _ _ _ _ _ _ _ _ _ _ _ _ _ _ _ _ _ _ _ _ _ _ _ _ _ _ _ _ _ _ _ _ _ _ _ _ _ _ _ _ _ _ _ _ _ _ _ _ _ _ _ _ _ _ _ _ _ _ _ _ _ _ _ _ _ _ _ _ _ _ _ _ _ _ _ _ _ _ _ _ _ _ _ _ _ _ _ _ _ _ _ _ _ _ _ _ _ _ _ _ _ _ _ _ _ _ _ _ _ _ _ _ _ _ _ _ _ _ _ _ _ _ _ _ hPN hB9.out
          · skip
            have hlag : lagOf 15 12 [8, 9] bb = #[true, true, true, true, true, true, true, true, false, true, true, true, false, false, false] := by rw [show lagOf 15 12 [8, 9] bb = #[true, true, true, true, true, true, true, true, bb 8, bb 9, true, true, false, false, false] from rfl, hb8, hb9]
            obtain q146 := (hval 9 _ 146 (fun _ => hb9) rfl rfl).out rfl
            have h146 := (congrFun hf 146).trans q146
            change wpAny Try.prog .any _ _ (15 - (lagOf 15 12 [8, 9] bb).toList.count true) (lagOf 15 12 [8, 9] bb) _ _
            rw [hlag]
            clear hlag hdf hsz hkp hval hfa hf
            simp only [fillAll, List.take, List.set_cons_zero, List.set_cons_succ, h137, h144, h20, h21, h146]
            clear h137 h144 h20 h21 h146 q137 q144 q20 q21 q146 hb8 hb9
            have hne : ¬ g40 = g31 := fun e => by rw [e, hz31] at hz40; simp at hz40
            have hne2 : ¬ g31 = g40 := fun e => hne e.symm
            have hz40' : wB.heap[g40]? = some (.cells #[.slice none 0 0, .int .i64 0] 40 (0, 0)) := hz40
            have hz31' : wB.heap[g31]? = some (.cells #[.int .i64 0, .int .i64 0, .int .i64 0, .slice none 0 0] 31 (0, 0)) := hz31
            have y0 : wB.cell? ⟨g40, 0, none⟩ = some (.slice none 0 0) := by simp [World.cell?, hz40']
            have y1 : wB.cell? ⟨g40, 1, none⟩ = some (.int .i64 0) := by simp [World.cell?, hz40']
            have u0 : wB.frozen? ⟨g40, 0, none⟩ = false := by simp [World.frozen?, hz40']
            have u1 : wB.frozen? ⟨g40, 1, none⟩ = false := by simp [World.frozen?, hz40']
            have x0 : wB.cell? ⟨g31, 0, none⟩ = some (.int .i64 0) := by simp [World.cell?, hz31']
            have x1 : wB.cell? ⟨g31, 1, none⟩ = some (.int .i64 0) := by simp [World.cell?, hz31']
            have x2 : wB.cell? ⟨g31, 2, none⟩ = some (.int .i64 0) := by simp [World.cell?, hz31']
            have x3 : wB.cell? ⟨g31, 3, none⟩ = some (.slice none 0 0) := by simp [World.cell?, hz31']
            have v0 : wB.frozen? ⟨g31, 0, none⟩ = false := by simp [World.frozen?, hz31']
            have v1 : wB.frozen? ⟨g31, 1, none⟩ = false := by simp [World.frozen?, hz31']
            have v2 : wB.frozen? ⟨g31, 2, none⟩ = false := by simp [World.frozen?, hz31']
            have v3 : wB.frozen? ⟨g31, 3, none⟩ = false := by simp [World.frozen?, hz31']
            have hzz : ∀ k, (k = g40 ∨ k = g31) → ZB wB k ∧ wA.heap.size ≤ k := fun k e => by
              rcases e with rfl | rfl
              · exact ⟨.inl hz40', hg40⟩
              · exact ⟨.inr hz31', hg31⟩
            have hkS := six_cells wB g40 g31 (.slice a1 n1 c1) (.int .i64 (last : Int)) (.int .i64 X0) (.int .i64 X1) (.int .i64 X2) (.slice b2 B.length c2)
            have hSS := hid (hS.news hkS hzz (fun q hq x hx => hNA.bodies.lt q hq x hx) hNA.lt hNA.own.lt)
            have hrb := six_r wB g40 g31 hne hz40' (.slice a1 n1 c1) (.int .i64 (last : Int)) (.int .i64 X0) (.int .i64 X1) (.int .i64 X2) (.slice b2 B.length c2)
            have hpb := six_p wB g40 g31 hne hz31' (.slice a1 n1 c1) (.int .i64 (last : Int)) (.int .i64 X0) (.int .i64 X1) (.int .i64 X2) (.slice b2 B.length c2)
            have hat2S := hat2.kp hkS (fun x hx e => by have h1 := (hb2 x hx).1; have h2 := (hzz _ e).2; have h3 := hkA.size; omega)
            have hglB : ¬ gl = g40 ∧ ¬ gl = g31 := ⟨fun e => by have h1 := V.llt; have h3 := hkA.size; omega, fun e => by have h1 := V.llt; have h3 := hkA.size; omega⟩
            have hglS := hkS.block gl (by have h1 := V.llt; have h3 := hkA.size; have h4 := bB.size; omega) (fun e => by rcases e with e | e; exact hglB.1 e; exact hglB.2 e)
            rw [bB.block gl (by have h1 := V.llt; have h3 := hkA.size; omega), V.gla hkA] at hglS
            have hX : ∀ k, (k = g40 ∨ k = g31) → w.heap.size ≤ k := fun k e => Nat.le_trans hkA.size (hzz k e).2
            have hgg : gl < wB.heap.size ∧ g40 < wB.heap.size ∧ g31 < wB.heap.size := ⟨by have h1 := V.llt; have h3 := hkA.size; have h4 := bB.size; omega, hl40, hl31⟩
            replace hS := hid hS
            replace hat2 := hid hat2
            replace hb2 := hid hb2
            replace hz40 := hid hz40
            replace hz31 := hid hz31
            replace hz40' := hid hz40'
            replace hz31' := hid hz31'
            replace hzz := hid hzz
            replace hkS := hid hkS
            replace hrb := hid hrb
            replace hpb := hid hpb
            replace hat2S := hid hat2S
            replace hglS := hid hglS
            replace hX := hid hX
            replace hglB := hid hglB
            replace V := hid V
            replace hNA := hid hNA
            replace hkA := hid hkA
            replace bB := hid bB
            try clear kR
            change wpAny Try.prog .any _ _ (3 + 1) _ _ _
            refine wpAny_take (i := 8) (v := .agg #[.int .i64 X0, .int .i64 X1, .int .i64 X2, .slice b2 B.length c2]) rfl (by kernel_rfl) (by kernel_rfl) (by kernel_rfl) (fun _ _ _ h => h) (Or.inl ⟨by rfl, ?_⟩) ?_
            · intro w
              go_simp
            change wpAny Try.prog .any _ _ (2 + 1) _ _ _
            refine wpAny_ready (rs := [12]) (by kernel_rfl) (by simp) ?_
            refine AllReady.cons rfl (fun K hK => ?_) AllReady.nil
            go_simp
            refine hK _ _ ?_
            clear hK K
            change wpAny Try.prog .any _ _ (1 + 1) _ _ _
            refine wpAny_ready (rs := [13]) (by kernel_rfl) (by simp) ?_
            refine AllReady.cons rfl (fun K hK => ?_) AllReady.nil
            go_simp
            refine hK _ _ ?_
            clear hK K
            change wpAny Try.prog .any _ _ (0 + 1) _ _ _
            refine wpAny_ready (rs := [14]) (by kernel_rfl) (by simp) ?_
            refine AllReady.cons rfl (fun K hK => ?_) AllReady.nil
            go_simp
            refine hK _ _ ?_
            clear hK K
            refine wpAny_done (by kernel_rfl) ?_ _
            replace V := V.out
            replace hNA := hNA.out
            replace hkA := hkA.out
            replace bB := bB.out
            clear y0 y1 u0 u1 x0 x1 x2 x3 v0 v1 v2 v3 hne hne2
            generalize (((((wB.setCell ⟨g40, 0, none⟩ (.slice a1 n1 c1)).setCell ⟨g40, 1, none⟩ (.int .i64 (last : Int))).setCell ⟨g31, 0, none⟩ (.int .i64 X0)).setCell ⟨g31, 1, none⟩ (.int .i64 X1)).setCell ⟨g31, 2, none⟩ (.int .i64 X2)).setCell ⟨g31, 3, none⟩ (.slice b2 B.length c2) = wS at *
            have r0 := hrb.out.cell0
            have r1 := hrb.out.cell1
            have l0 := (lcell hglS.out hon).1
            have l1 := (lcell hglS.out hon).2.1
            have k0 := (lcell hglS.out hon).2.2.1
            have k1 := (lcell hglS.out hon).2.2.2
            have hfin := V.fin hkA bB hkS.out hX.out hbw hSS.out
            replace V := hid V
            replace hNA := hid hNA
            replace hkA := hid hkA
            replace bB := hid bB
            replace hfin := hid hfin
            have hp18S := hid (show PBlk wS g18 (.int .i64 X0) (.int .i64 X1) (.int .i64 X2) (.slice b1 B.length cq) from ((hkS.out.block g18 (by have h1 := bB.out.size; have h2 := hp18.out.lt'; omega) (fun e => by have h1 := (hzz.out g18 e).2; have h2 := hp18.out.lt'; omega)).trans (bB.out.block g18 hp18.out.lt')).trans hp18.out)
            have hat1S := hid (hat1.out.new hkS.out bB.out (fun k e => (hzz.out k e).2))
            obtain ⟨s0, s1, s2, s3⟩ := hp18S.out.four
            obtain ⟨t0, t1, t2, t3⟩ := hpb.out.four
            have hn1 : ¬ gl = g18 := fun e => by have h1 := V.out.llt; omega
            have hn2 : ¬ g18 = gl := fun e => hn1 e.symm
            have hn3 : ¬ gl = g31 := hglB.out.2
            have hn4 : ¬ g31 = gl := fun e => hn3 e.symm
            have hz1 := hp18S.out.lt'
            have hz2 := hpb.out.lt'
            have kE := hid (two_gl wS gl on (.slice a1 n1 c1) (.int .i64 (last : Int)))
            have hat1E := hid (hat1S.out.kp kE.out (fun x hx e => by have h1 := hb1n.out x hx; exact h1 e))
            have hat2E := hid (hat2S.out.kp kE.out (fun x hx e => (hb2.out x hx).2 (by simp [T6, e])))
            go_wp2_with fail
            have hsE : ((wS.setCell ⟨gl, on * 2, none⟩ (.slice a1 n1 c1)).setCell ⟨gl, on * 2 + 1, none⟩ (.int .i64 (last : Int))).heap.size = wS.heap.size := by simp [World.setCell]
            generalize (wS.setCell ⟨gl, on * 2, none⟩ (.slice a1 n1 c1)).setCell ⟨gl, on * 2 + 1, none⟩ (.int .i64 (last : Int)) = wE at *
            have bl1 := below_lit wE (.cells #[.int .i64 X0, .int .i64 X1, .int .i64 X2, .slice b1 B.length cq] 31)
            have bl2 := below_lit (wE.alloc (.cells #[.int .i64 X0, .int .i64 X1, .int .i64 X2, .slice b1 B.length cq] 31)) (.cells #[.int .i64 X0, .int .i64 X1, .int .i64 X2, .slice b2 B.length c2] 31)
            have q1 := rat_lit bl2 ((hat1E.out.below bl1).below bl2)
            have q2 := rat_lit (Below.refl _ _) ((hat2E.out.below bl1).below bl2)
            rw [World.size_alloc] at q2
            rw [hsE] at q1 q2
            refine (samep_any (some ⟨wS.heap.size, 0, none⟩) (some ⟨wS.heap.size + 1, 0, none⟩) 1 1 1 [⟨X0, X1, X2, b1, cq, B⟩] [⟨X0, X1, X2, b2, c2, B⟩] _ rfl rfl q1 q2 (by omega)).mono ?_
            rintro e w9 ⟨rfl, b9⟩
            have bE9 := bnext (bnext bl1 bl2) b9
            have hV9 := hid (hfin.out.1.below bE9)
            have hB9 := hid (hfin.out.2.trans (bE9.mono (Nat.le_trans hbw hfin.out.2.size)))
            clear q1 q2 bl1 bl2 b9 s0 s1 s2 s3 t0 t1 t2 t3
            go_wp2_with fail
            have hPN : PN base gd gl on w9 (b + 1) := ⟨_, _, _, _, _, _, _, _, _, _, _, _, _, _, _, _, hV9.out, by omega, by omega⟩
            exact hN.out _ _ _ _ _ _ _ _ _ _ _ _ _ _ _ _ _ _ _ _ _ _ _ _ _ _ _ _ _ _ _ _ _ _ _ _ _ _ _ _ _ _ _ _ _ _ _ _ _ _ _ _ _ _ _ _ _ _ _ _ _ _ _ _ _ _ _ _ _ _ _ _ _ _ _ _ _ _ _ _ _ _ _ _ _ _ _ _ _ _ _ _ _ _ _ _ _ _ _ _ _ _ _ _ _ _ _ _ _ _ _ _ _ _ _ _ _ _ _ _ _ _ _ _ _ _ _ _ _ _ _ _ _ _ _ _ _ _ _ _ _ _ _ _ _ _ _ _ _ _ _ _ _ _ _ _ _ _ _ _ _ _ _ _ _ _ _ _ _ _ _ _ _ _ _ _ hPN hB9.out
        · skip
          cases hb9 : bb 9
          · skip
            have hlag : lagOf 15 12 [8, 9] bb = #[true, true, true, true, true, true, true, true, true, false, true, true, false, false, false] := by rw [show lagOf 15 12 [8, 9] bb = #[true, true, true, true, true, true, true, true, bb 8, bb 9, true, true, false, false, false] from rfl, hb8, hb9]
            clear hat2 hb2
            obtain ⟨b2, c2, q145, hat2, hb2⟩ := (hval 8 _ 145 (fun _ => hb8) rfl rfl).out rfl
            have h145 := (congrFun hf 145).trans q145
            change wpAny Try.prog .any _ _ (15 - (lagOf 15 12 [8, 9] bb).toList.count true) (lagOf 15 12 [8, 9] bb) _ _
            rw [hlag]
            clear hlag hdf hsz hkp hval hfa hf
            simp only [fillAll, List.take, List.set_cons_zero, List.set_cons_succ, h137, h144, h20, h21, h145]
            clear h137 h144 h20 h21 h145 q137 q144 q20 q21 q145 hb8 hb9
            have hne : ¬ g40 = g31 := fun e => by rw [e, hz31] at hz40; simp at hz40
            have hne2 : ¬ g31 = g40 := fun e => hne e.symm
            have hz40' : wB.heap[g40]? = some (.cells #[.slice none 0 0, .int .i64 0] 40 (0, 0)) := hz40
            have hz31' : wB.heap[g31]? = some (.cells #[.int .i64 0, .int .i64 0, .int .i64 0, .slice none 0 0] 31 (0, 0)) := hz31
            have y0 : wB.cell? ⟨g40, 0, none⟩ = some (.slice none 0 0) := by simp [World.cell?, hz40']
            have y1 : wB.cell? ⟨g40, 1, none⟩ = some (.int .i64 0) := by simp [World.cell?, hz40']
            have u0 : wB.frozen? ⟨g40, 0, none⟩ = false := by simp [World.frozen?, hz40']
            have u1 : wB.frozen? ⟨g40, 1, none⟩ = false := by simp [World.frozen?, hz40']
            have x0 : wB.cell? ⟨g31, 0, none⟩ = some (.int .i64 0) := by simp [World.cell?, hz31']
            have x1 : wB.cell? ⟨g31, 1, none⟩ = some (.int .i64 0) := by simp [World.cell?, hz31']
            have x2 : wB.cell? ⟨g31, 2, none⟩ = some (.int .i64 0) := by simp [World.cell?, hz31']
            have x3 : wB.cell? ⟨g31, 3, none⟩ = some (.slice none 0 0) := by simp [World.cell?, hz31']
            have v0 : wB.frozen? ⟨g31, 0, none⟩ = false := by simp [World.frozen?, hz31']
            have v1 : wB.frozen? ⟨g31, 1, none⟩ = false := by simp [World.frozen?, hz31']
            have v2 : wB.frozen? ⟨g31, 2, none⟩ = false := by simp [World.frozen?, hz31']
            have v3 : wB.frozen? ⟨g31, 3, none⟩ = false := by simp [World.frozen?, hz31']
            have hzz : ∀ k, (k = g40 ∨ k = g31) → ZB wB k ∧ wA.heap.size ≤ k := fun k e => by
              rcases e with rfl | rfl
              · exact ⟨.inl hz40', hg40⟩
              · exact ⟨.inr hz31', hg31⟩
            have hkS := six_cells wB g40 g31 (.slice a1 n1 c1) (.int .i64 (last : Int)) (.int .i64 X0) (.int .i64 X1) (.int .i64 X2) (.slice b2 B.length c2)
            have hSS := hid (hS.news hkS hzz (fun q hq x hx => hNA.bodies.lt q hq x hx) hNA.lt hNA.own.lt)
            have hrb := six_r wB g40 g31 hne hz40' (.slice a1 n1 c1) (.int .i64 (last : Int)) (.int .i64 X0) (.int .i64 X1) (.int .i64 X2) (.slice b2 B.length c2)
            have hpb := six_p wB g40 g31 hne hz31' (.slice a1 n1 c1) (.int .i64 (last : Int)) (.int .i64 X0) (.int .i64 X1) (.int .i64 X2) (.slice b2 B.length c2)
            have hat2S := hat2.kp hkS (fun x hx e => by have h1 := (hb2 x hx).1; have h2 := (hzz _ e).2; have h3 := hkA.size; omega)
            have hglB : ¬ gl = g40 ∧ ¬ gl = g31 := ⟨fun e => by have h1 := V.llt; have h3 := hkA.size; omega, fun e => by have h1 := V.llt; have h3 := hkA.size; omega⟩
            have hglS := hkS.block gl (by have h1 := V.llt; have h3 := hkA.size; have h4 := bB.size; omega) (fun e => by rcases e with e | e; exact hglB.1 e; exact hglB.2 e)
            rw [bB.block gl (by have h1 := V.llt; have h3 := hkA.size; omega), V.gla hkA] at hglS
            have hX : ∀ k, (k = g40 ∨ k = g31) → w.heap.size ≤ k := fun k e => Nat.le_trans hkA.size (hzz k e).2
            have hgg : gl < wB.heap.size ∧ g40 < wB.heap.size ∧ g31 < wB.heap.size := ⟨by have h1 := V.llt; have h3 := hkA.size; have h4 := bB.size; omega, hl40, hl31⟩
            replace hS := hid hS
            replace hat2 := hid hat2
            replace hb2 := hid hb2
            replace hz40 := hid hz40
            replace hz31 := hid hz31
            replace hz40' := hid hz40'
            replace hz31' := hid hz31'
            replace hzz := hid hzz
            replace hkS := hid hkS
            replace hrb := hid hrb
            replace hpb := hid hpb
            replace hat2S := hid hat2S
            replace hglS := hid hglS
            replace hX := hid hX
            replace hglB := hid hglB
            replace V := hid V
            replace hNA := hid hNA
            replace hkA := hid hkA
            replace bB := hid bB
            try clear kR
            change wpAny Try.prog .any _ _ (3 + 1) _ _ _
            refine wpAny_take (i := 9) (v := .int .i64 ec) rfl (by kernel_rfl) (by kernel_rfl) (by kernel_rfl) (fun _ _ _ h => h) (Or.inl ⟨by rfl, ?_⟩) ?_
            · intro w
              go_simp
            change wpAny Try.prog .any _ _ (2 + 1) _ _ _
            refine wpAny_ready (rs := [12]) (by kernel_rfl) (by simp) ?_
            refine AllReady.cons rfl (fun K hK => ?_) AllReady.nil
            go_simp
            refine hK _ _ ?_
            clear hK K
            change wpAny Try.prog .any _ _ (1 + 1) _ _ _
            refine wpAny_ready (rs := [13]) (by kernel_rfl) (by simp) ?_
            refine AllReady.cons rfl (fun K hK => ?_) AllReady.nil
            go_simp
            refine hK _ _ ?_
            clear hK K
            change wpAny Try.prog .any _ _ (0 + 1) _ _ _
            refine wpAny_ready (rs := [14]) (by kernel_rfl) (by simp) ?_
            refine AllReady.cons rfl (fun K hK => ?_) AllReady.nil
            go_simp
            refine hK _ _ ?_
            clear hK K
            refine wpAny_done (by kernel_rfl) ?_ _
            replace V := V.out
            replace hNA := hNA.out
            replace hkA := hkA.out
            replace bB := bB.out
            clear y0 y1 u0 u1 x0 x1 x2 x3 v0 v1 v2 v3 hne hne2
            generalize (((((wB.setCell ⟨g40, 0, none⟩ (.slice a1 n1 c1)).setCell ⟨g40, 1, none⟩ (.int .i64 (last : Int))).setCell ⟨g31, 0, none⟩ (.int .i64 X0)).setCell ⟨g31, 1, none⟩ (.int .i64 X1)).setCell ⟨g31, 2, none⟩ (.int .i64 X2)).setCell ⟨g31, 3, none⟩ (.slice b2 B.length c2) = wS at *
            have r0 := hrb.out.cell0
            have r1 := hrb.out.cell1
            have l0 := (lcell hglS.out hon).1
            have l1 := (lcell hglS.out hon).2.1
            have k0 := (lcell hglS.out hon).2.2.1
            have k1 := (lcell hglS.out hon).2.2.2
            have hfin := V.fin hkA bB hkS.out hX.out hbw hSS.out
            replace V := hid V
            replace hNA := hid hNA
            replace hkA := hid hkA
            replace bB := hid bB
            replace hfin := hid hfin
            have hp18S := hid (show PBlk wS g18 (.int .i64 X0) (.int .i64 X1) (.int .i64 X2) (.slice b1 B.length cq) from ((hkS.out.block g18 (by have h1 := bB.out.size; have h2 := hp18.out.lt'; omega) (fun e => by have h1 := (hzz.out g18 e).2; have h2 := hp18.out.lt'; omega)).trans (bB.out.block g18 hp18.out.lt')).trans hp18.out)
            have hat1S := hid (hat1.out.new hkS.out bB.out (fun k e => (hzz.out k e).2))
            obtain ⟨s0, s1, s2, s3⟩ := hp18S.out.four
            obtain ⟨t0, t1, t2, t3⟩ := hpb.out.four
            have hn1 : ¬ gl = g18 := fun e => by have h1 := V.out.llt; omega
            have hn2 : ¬ g18 = gl := fun e => hn1 e.symm
            have hn3 : ¬ gl = g31 := hglB.out.2
            have hn4 : ¬ g31 = gl := fun e => hn3 e.symm
            have hz1 := hp18S.out.lt'
            have hz2 := hpb.out.lt'
            have kE := hid (two_gl wS gl on (.slice a1 n1 c1) (.int .i64 (last : Int)))
            have hat1E := hid (hat1S.out.kp kE.out (fun x hx e => by have h1 := hb1n.out x hx; exact h1 e))
            have hat2E := hid (hat2S.out.kp kE.out (fun x hx e => (hb2.out x hx).2 (by simp [T6, e])))
            go_wp2_with fail
            have hsE : ((wS.setCell ⟨gl, on * 2, none⟩ (.slice a1 n1 c1)).setCell ⟨gl, on * 2 + 1, none⟩ (.int .i64 (last : Int))).heap.size = wS.heap.size := by simp [World.setCell]
            generalize (wS.setCell ⟨gl, on * 2, none⟩ (.slice a1 n1 c1)).setCell ⟨gl, on * 2 + 1, none⟩ (.int .i64 (last : Int)) = wE at *
            have bl1 := below_lit wE (.cells #[.int .i64 X0, .int .i64 X1, .int .i64 X2, .slice b1 B.length cq] 31)
            have bl2 := below_lit (wE.alloc (.cells #[.int .i64 X0, .int .i64 X1, .int .i64 X2, .slice b1 B.length cq] 31)) (.cells #[.int .i64 X0, .int .i64 X1, .int .i64 X2, .slice b2 B.length c2] 31)
            have q1 := rat_lit bl2 ((hat1E.out.below bl1).below bl2)
            have q2 := rat_lit (Below.refl _ _) ((hat2E.out.below bl1).below bl2)
            rw [World.size_alloc] at q2
            rw [hsE] at q1 q2
            refine (samep_any (some ⟨wS.heap.size, 0, none⟩) (some ⟨wS.heap.size + 1, 0, none⟩) 1 1 1 [⟨X0, X1, X2, b1, cq, B⟩] [⟨X0, X1, X2, b2, c2, B⟩] _ rfl rfl q1 q2 (by omega)).mono ?_
            rintro e w9 ⟨rfl, b9⟩
            have bE9 := bnext (bnext bl1 bl2) b9
            have hV9 := hid (hfin.out.1.below bE9)
            have hB9 := hid (hfin.out.2.trans (bE9.mono (Nat.le_trans hbw hfin.out.2.size)))
            clear q1 q2 bl1 bl2 b9 s0 s1 s2 s3 t0 t1 t2 t3
            go_wp2_with fail
            have hPN : PN base gd gl on w9 (b + 1) := ⟨_, _, _, _, _, _, _, _, _, _, _, _, _, _, _, _, hV9.out, by omega, by omega⟩
            exact hN.out _ _ _ _ _ _ _ _ _ _ _ _ _ _ _ _ _ _ _ _ _ _ _ _ _ _ _ _ _ _ _ _ _ _ _ _ _ _ _ _ _ _ _ _ _ _ _ _ _ _ _ _ _ _ _ _ _ _ _ _ _ _ _ _ _ _ _ _ _ _ _ _ _ _ _ _ _ _ _ _ _ _ _ _ _ _ _ _ _ _ _ _ _ _ _ _ _ _ _ _ _ _ _ _ _ _ _ _ _ _ _ _ _ _ _ _ _ _ _ _ _ _ _ _ _ _ _ _ _ _ _ _ _ _ _ _ _ _ _ _ _ _ _ _ _ _ _ _ _ _ _ _ _ _ _ _ _ _ _ _ _ _ _ _ _ _ _ _ _ _ _ _ _ _ _ _ hPN hB9.out
          · skip
            have hlag : lagOf 15 12 [8, 9] bb = #[true, true, true, true, true, true, true, true, true, true, true, true, false, false, false] := by rw [show lagOf 15 12 [8, 9] bb = #[true, true, true, true, true, true, true, true, bb 8, bb 9, true, true, false, false, false] from rfl, hb8, hb9]
            clear hat2 hb2
            obtain ⟨b2, c2, q145, hat2, hb2⟩ := (hval 8 _ 145 (fun _ => hb8) rfl rfl).out rfl
            have h145 := (congrFun hf 145).trans q145
            obtain q146 := (hval 9 _ 146 (fun _ => hb9) rfl rfl).out rfl
            have h146 := (congrFun hf 146).trans q146
            change wpAny Try.prog .any _ _ (15 - (lagOf 15 12 [8, 9] bb).toList.count true) (lagOf 15 12 [8, 9] bb) _ _
            rw [hlag]
            clear hlag hdf hsz hkp hval hfa hf
            simp only [fillAll, List.take, List.set_cons_zero, List.set_cons_succ, h137, h144, h20, h21, h145, h146]
            clear h137 h144 h20 h21 h145 h146 q137 q144 q20 q21 q145 q146 hb8 hb9
            have hne : ¬ g40 = g31 := fun e => by rw [e, hz31] at hz40; simp at hz40
            have hne2 : ¬ g31 = g40 := fun e => hne e.symm
            have hz40' : wB.heap[g40]? = some (.cells #[.slice none 0 0, .int .i64 0] 40 (0, 0)) := hz40
            have hz31' : wB.heap[g31]? = some (.cells #[.int .i64 0, .int .i64 0, .int .i64 0, .slice none 0 0] 31 (0, 0)) := hz31
            have y0 : wB.cell? ⟨g40, 0, none⟩ = some (.slice none 0 0) := by simp [World.cell?, hz40']
            have y1 : wB.cell? ⟨g40, 1, none⟩ = some (.int .i64 0) := by simp [World.cell?, hz40']
            have u0 : wB.frozen? ⟨g40, 0, none⟩ = false := by simp [World.frozen?, hz40']
            have u1 : wB.frozen? ⟨g40, 1, none⟩ = false := by simp [World.frozen?, hz40']
            have x0 : wB.cell? ⟨g31, 0, none⟩ = some (.int .i64 0) := by simp [World.cell?, hz31']
            have x1 : wB.cell? ⟨g31, 1, none⟩ = some (.int .i64 0) := by simp [World.cell?, hz31']
            have x2 : wB.cell? ⟨g31, 2, none⟩ = some (.int .i64 0) := by simp [World.cell?, hz31']
            have x3 : wB.cell? ⟨g31, 3, none⟩ = some (.slice none 0 0) := by simp [World.cell?, hz31']
            have v0 : wB.frozen? ⟨g31, 0, none⟩ = false := by simp [World.frozen?, hz31']
            have v1 : wB.frozen? ⟨g31, 1, none⟩ = false := by simp [World.frozen?, hz31']
            have v2 : wB.frozen? ⟨g31, 2, none⟩ = false := by simp [World.frozen?, hz31']
            have v3 : wB.frozen? ⟨g31, 3, none⟩ = false := by simp [World.frozen?, hz31']
            have hzz : ∀ k, (k = g40 ∨ k = g31) → ZB wB k ∧ wA.heap.size ≤ k := fun k e => by
              rcases e with rfl | rfl
              · exact ⟨.inl hz40', hg40⟩
              · exact ⟨.inr hz31', hg31⟩
            have hkS := six_cells wB g40 g31 (.slice a1 n1 c1) (.int .i64 (last : Int)) (.int .i64 X0) (.int .i64 X1) (.int .i64 X2) (.slice b2 B.length c2)
            have hSS := hid (hS.news hkS hzz (fun q hq x hx => hNA.bodies.lt q hq x hx) hNA.lt hNA.own.lt)
            have hrb := six_r wB g40 g31 hne hz40' (.slice a1 n1 c1) (.int .i64 (last : Int)) (.int .i64 X0) (.int .i64 X1) (.int .i64 X2) (.slice b2 B.length c2)
            have hpb := six_p wB g40 g31 hne hz31' (.slice a1 n1 c1) (.int .i64 (last : Int)) (.int .i64 X0) (.int .i64 X1) (.int .i64 X2) (.slice b2 B.length c2)
            have hat2S := hat2.kp hkS (fun x hx e => by have h1 := (hb2 x hx).1; have h2 := (hzz _ e).2; have h3 := hkA.size; omega)
            have hglB : ¬ gl = g40 ∧ ¬ gl = g31 := ⟨fun e => by have h1 := V.llt; have h3 := hkA.size; omega, fun e => by have h1 := V.llt; have h3 := hkA.size; omega⟩
            have hglS := hkS.block gl (by have h1 := V.llt; have h3 := hkA.size; have h4 := bB.size; omega) (fun e => by rcases e with e | e; exact hglB.1 e; exact hglB.2 e)
            rw [bB.block gl (by have h1 := V.llt; have h3 := hkA.size; omega), V.gla hkA] at hglS
            have hX : ∀ k, (k = g40 ∨ k = g31) → w.heap.size ≤ k := fun k e => Nat.le_trans hkA.size (hzz k e).2
            have hgg : gl < wB.heap.size ∧ g40 < wB.heap.size ∧ g31 < wB.heap.size := ⟨by have h1 := V.llt; have h3 := hkA.size; have h4 := bB.size; omega, hl40, hl31⟩
            replace hS := hid hS
            replace hat2 := hid hat2
            replace hb2 := hid hb2
            replace hz40 := hid hz40
            replace hz31 := hid hz31
            replace hz40' := hid hz40'
            replace hz31' := hid hz31'
            replace hzz := hid hzz
            replace hkS := hid hkS
            replace hrb := hid hrb
            replace hpb := hid hpb
            replace hat2S := hid hat2S
            replace hglS := hid hglS
            replace hX := hid hX
            replace hglB := hid hglB
            replace V := hid V
            replace hNA := hid hNA
            replace hkA := hid hkA
            replace bB := hid bB
            try clear kR
            change wpAny Try.prog .any _ _ (2 + 1) _ _ _
            refine wpAny_ready (rs := [12]) (by kernel_rfl) (by simp) ?_
            refine AllReady.cons rfl (fun K hK => ?_) AllReady.nil
            go_simp
            refine hK _ _ ?_
            clear hK K
            change wpAny Try.prog .any _ _ (1 + 1) _ _ _
            refine wpAny_ready (rs := [13]) (by kernel_rfl) (by simp) ?_
            refine AllReady.cons rfl (fun K hK => ?_) AllReady.nil
            go_simp
            refine hK _ _ ?_
            clear hK K
            change wpAny Try.prog .any _ _ (0 + 1) _ _ _
            refine wpAny_ready (rs := [14]) (by kernel_rfl) (by simp) ?_
            refine AllReady.cons rfl (fun K hK => ?_) AllReady.nil
            go_simp
            refine hK _ _ ?_
            clear hK K
            refine wpAny_done (by kernel_rfl) ?_ _
            replace V := V.out
            replace hNA := hNA.out
            replace hkA := hkA.out
            replace bB := bB.out
            clear y0 y1 u0 u1 x0 x1 x2 x3 v0 v1 v2 v3 hne hne2
            generalize (((((wB.setCell ⟨g40, 0, none⟩ (.slice a1 n1 c1)).setCell ⟨g40, 1, none⟩ (.int .i64 (last : Int))).setCell ⟨g31, 0, none⟩ (.int .i64 X0)).setCell ⟨g31, 1, none⟩ (.int .i64 X1)).setCell ⟨g31, 2, none⟩ (.int .i64 X2)).setCell ⟨g31, 3, none⟩ (.slice b2 B.length c2) = wS at *
            have r0 := hrb.out.cell0
            have r1 := hrb.out.cell1
            have l0 := (lcell hglS.out hon).1
            have l1 := (lcell hglS.out hon).2.1
            have k0 := (lcell hglS.out hon).2.2.1
            have k1 := (lcell hglS.out hon).2.2.2
            have hfin := V.fin hkA bB hkS.out hX.out hbw hSS.out
            replace V := hid V
            replace hNA := hid hNA
            replace hkA := hid hkA
            replace bB := hid bB
            replace hfin := hid hfin
            have hp18S := hid (show PBlk wS g18 (.int .i64 X0) (.int .i64 X1) (.int .i64 X2) (.slice b1 B.length cq) from ((hkS.out.block g18 (by have h1 := bB.out.size; have h2 := hp18.out.lt'; omega) (fun e => by have h1 := (hzz.out g18 e).2; have h2 := hp18.out.lt'; omega)).trans (bB.out.block g18 hp18.out.lt')).trans hp18.out)
            have hat1S := hid (hat1.out.new hkS.out bB.out (fun k e => (hzz.out k e).2))
            obtain ⟨s0, s1, s2, s3⟩ := hp18S.out.four
            obtain ⟨t0, t1, t2, t3⟩ := hpb.out.four
            have hn1 : ¬ gl = g18 := fun e => by have h1 := V.out.llt; omega
            have hn2 : ¬ g18 = gl := fun e => hn1 e.symm
            have hn3 : ¬ gl = g31 := hglB.out.2
            have hn4 : ¬ g31 = gl := fun e => hn3 e.symm
            have hz1 := hp18S.out.lt'
            have hz2 := hpb.out.lt'
            have kE := hid (two_gl wS gl on (.slice a1 n1 c1) (.int .i64 (last : Int)))
            have hat1E := hid (hat1S.out.kp kE.out (fun x hx e => by have h1 := hb1n.out x hx; exact h1 e))
            have hat2E := hid (hat2S.out.kp kE.out (fun x hx e => (hb2.out x hx).2 (by simp [T6, e])))
            go_wp2_with fail
            have hsE : ((wS.setCell ⟨gl, on * 2, none⟩ (.slice a1 n1 c1)).setCell ⟨gl, on * 2 + 1, none⟩ (.int .i64 (last : Int))).heap.size = wS.heap.size := by simp [World.setCell]
            generalize (wS.setCell ⟨gl, on * 2, none⟩ (.slice a1 n1 c1)).setCell ⟨gl, on * 2 + 1, none⟩ (.int .i64 (last : Int)) = wE at *
            have bl1 := below_lit wE (.cells #[.int .i64 X0, .int .i64 X1, .int .i64 X2, .slice b1 B.length cq] 31)
            have bl2 := below_lit (wE.alloc (.cells #[.int .i64 X0, .int .i64 X1, .int .i64 X2, .slice b1 B.length cq] 31)) (.cells #[.int .i64 X0, .int .i64 X1, .int .i64 X2, .slice b2 B.length c2] 31)
            have q1 := rat_lit bl2 ((hat1E.out.below bl1).below bl2)
            have q2 := rat_lit (Below.refl _ _) ((hat2E.out.below bl1).below bl2)
            rw [World.size_alloc] at q2
            rw [hsE] at q1 q2
            refine (samep_any (some ⟨wS.heap.size, 0, none⟩) (some ⟨wS.heap.size + 1, 0, none⟩) 1 1 1 [⟨X0, X1, X2, b1, cq, B⟩] [⟨X0, X1, X2, b2, c2, B⟩] _ rfl rfl q1 q2 (by omega)).mono ?_
            rintro e w9 ⟨rfl, b9⟩
            have bE9 := bnext (bnext bl1 bl2) b9
            have hV9 := hid (hfin.out.1.below bE9)
            have hB9 := hid (hfin.out.2.trans (bE9.mono (Nat.le_trans hbw hfin.out.2.size)))
            clear q1 q2 bl1 bl2 b9 s0 s1 s2 s3 t0 t1 t2 t3
            go_wp2_with fail
            have hPN : PN base gd gl on w9 (b + 1) := ⟨_, _, _, _, _, _, _, _, _, _, _, _, _, _, _, _, hV9.out, by omega, by omega⟩
            exact hN.out _ _ _ _ _ _ _ _ _ _ _ _ _ _ _ _ _ _ _ _ _ _ _ _ _ _ _ _ _ _ _ _ _ _ _ _ _ _ _ _ _ _ _ _ _ _ _ _ _ _ _ _ _ _ _ _ _ _ _ _ _ _ _ _ _ _ _ _ _ _ _ _ _ _ _ _ _ _ _ _ _ _ _ _ _ _ _ _ _ _ _ _ _ _ _ _ _ _ _ _ _ _ _ _ _ _ _ _ _ _ _ _ _ _ _ _ _ _ _ _ _ _ _ _ _ _ _ _ _ _ _ _ _ _ _ _ _ _ _ _ _ _ _ _ _ _ _ _ _ _ _ _ _ _ _ _ _ _ _ _ _ _ _ _ _ _ _ _ _ _ _ _ _ _ _ _ hPN hB9.out
    · skip
      have hlag : lagOf 12 10 [8] bb = #[true, true, true, true, true, true, true, true, true, true, false, false] := by rw [show lagOf 12 10 [8] bb = #[true, true, true, true, true, true, true, true, bb 8, true, false, false] from rfl, hb8]
      obtain q136 := (hval 8 _ 136 (fun _ => hb8) rfl rfl).out rfl
      have h136 := (congrFun hf 136).trans q136
      change wpAny Try.prog .any _ _ (12 - (lagOf 12 10 [8] bb).toList.count true) (lagOf 12 10 [8] bb) _ _
      rw [hlag]
      clear hlag hdf hsz hkp hval hfa hf
      simp only [fillAll, List.take, List.set_cons_zero, List.set_cons_succ, h128, h135, h18, h136]
      clear h128 h135 h18 h136 q128 q135 q18 q136 hb8
      obtain ⟨hN0, hk0⟩ := hAf
      clear kD
      have hz18' : wX.heap[g18]? = some (.cells #[.int .i64 0, .int .i64 0, .int .i64 0, .slice none 0 0] 31 (0, 0)) := hz18
      have x0 : wX.cell? ⟨g18, 0, none⟩ = some (.int .i64 0) := by simp [World.cell?, hz18']
      have x1 : wX.cell? ⟨g18, 1, none⟩ = some (.int .i64 0) := by simp [World.cell?, hz18']
      have x2 : wX.cell? ⟨g18, 2, none⟩ = some (.int .i64 0) := by simp [World.cell?, hz18']
      have x3 : wX.cell? ⟨g18, 3, none⟩ = some (.slice none 0 0) := by simp [World.cell?, hz18']
      have v0 : wX.frozen? ⟨g18, 0, none⟩ = false := by simp [World.frozen?, hz18']
      have v1 : wX.frozen? ⟨g18, 1, none⟩ = false := by simp [World.frozen?, hz18']
      have v2 : wX.frozen? ⟨g18, 2, none⟩ = false := by simp [World.frozen?, hz18']
      have v3 : wX.frozen? ⟨g18, 3, none⟩ = false := by simp [World.frozen?, hz18']
      have hk4 := four_cells wX g18 (.int .i64 X0) (.int .i64 X1) (.int .i64 X2) (.slice b1 B.length cq)
      have hp18 := hid (four_p hz18' (.int .i64 X0) (.int .i64 X1) (.int .i64 X2) (.slice b1 B.length cq))
      have hNA := hN0.kp hk4 (fun e => by have h1 := V.sd.net.lt; omega) (fun e => by have h1 := V.sd.net.own.lt; omega) (fun q hq x hx e => by have h1 := V.sd.net.bodies.lt q (hsub.out q hq) x hx; omega)
      have hkA := hk0.next hk4 (fun i hi e => by omega)
      have hat1A := hid (hat1.zb hk4 (.inr hz18'))
      have hb1n := hid (show ∀ x, b1 = some x → ¬ x.block = gl from fun x hx e => by have h1 := hb1 x hx; have h2 := V.llt; omega)
      clear hat1
      have hat1 := hat1A
      clear hat1A
      replace V := hid V
      replace hNA := hid hNA
      replace hkA := hid hkA
      replace hz18 := hid hz18
      replace hz18' := hid hz18'
      replace hk4 := hid hk4
      replace hN0 := hid hN0
      replace hk0 := hid hk0
      change wpAny Try.prog .any _ _ (1 + 1) _ _ _
      refine wpAny_ready (rs := [10]) (by kernel_rfl) (by simp) ?_
      refine AllReady.cons rfl (fun K hK => ?_) AllReady.nil
      go_simp
      refine hK _ _ ?_
      clear hK K
      change wpAny Try.prog .any _ _ (0 + 1) _ _ _
      refine wpAny_ready (rs := [11]) (by kernel_rfl) (by simp) ?_
      refine AllReady.cons rfl (fun K hK => ?_) AllReady.nil
      go_simp
      refine hK _ _ ?_
      clear hK K
      refine wpAny_done (by kernel_rfl) ?_ _
      clear x0 x1 x2 x3 v0 v1 v2 v3
      generalize (((wX.setCell ⟨g18, 0, none⟩ (.int .i64 X0)).setCell ⟨g18, 1, none⟩ (.int .i64 X1)).setCell ⟨g18, 2, none⟩ (.int .i64 X2)).setCell ⟨g18, 3, none⟩ (.slice b1 B.length cq) = wA at *
      clear hk4
      go_wp2_with fail
      replace V := V.out
      replace hNA := hNA.out
      replace hkA := hkA.out
      replace kR := kR.out
      refine wp_region_lag 12 [8, 9] (Bf := (fun w' => Below wA.heap.size wA w')) (Af := (fun w' => Below wA.heap.size wA w')) (C := 5) (Pr := PrV (pv24 gl on n c last g9 a num) [5, 6, 7, 8, 9, 10, 11] (R20 (T6 p m p' m' gd gl) w.heap.size wA.heap.size p m L1 last X0 X1 X2 B ec)) (by kernel_rfl) (by kernel_rfl) (by decide) (by decide) (by decide) (drew_below _) ?_ (by kernel_rfl) ?_
      · refine ⟨?_, ?_, ?_, ?_, ?_, ?_, ?_, ?_, ?_, ?_, ?_, ?_, trivial⟩
        · exact fun ac w hC hBA hd hk K hK => yes (want_n rfl) (wp_mv _ rfl _ (get_keep (hk 10 (no_dst (by kernel_rfl))) rfl) (hK _ w (PrV.is rfl rfl) (fun e => absurd e (by decide)) (fun _ => ⟨id, id⟩) (fun _ _ _ h => h)))
        · intro ac w hC hBA hd hk K hK
          have e6 : ac.tmps[6]?.getD undef = (.pointer (some ⟨gl, 0, none⟩) : Value) := slot (get_keep (hk 6 (no_dst (by kernel_rfl))) rfl)
          have e138 : ac.tmps[138]?.getD undef = (.int .i64 (on : Int) : Value) := slot ((hd 0 _ 138 rfl rfl rfl).val rfl)
          refine yes (want_n rfl) ?_
          have hv := hid (hK (.pointer (some ⟨gl, on * 2, none⟩)) w (PrV.is rfl rfl) (fun e => absurd e (by decide)) (fun _ => ⟨id, id⟩) (fun _ _ _ h => h))
          clear hK hC hBA hd hk
          go_simp
          refine kq hv.out ?_
          rfl
        · intro ac w hC hBA hd hk K hK
          have e139 : ac.tmps[139]?.getD undef = (.pointer (some ⟨gl, on * 2, none⟩) : Value) := slot ((hd 1 _ 139 rfl rfl rfl).val rfl)
          have x := V.lk (hkA.then (hBA.elim id id))
          have x0 := x.1
          have x1 := x.2
          clear x
          refine yes (want_n rfl) ?_
          have hv := hid (hK (.agg #[.slice a n c, .int .i64 (last : Int)]) w (PrV.is rfl rfl) (fun e => absurd e (by decide)) (fun _ => ⟨id, id⟩) (fun _ _ _ h => h))
          clear hK hC hBA hd hk
          go_simp
          refine kq hv.out ?_
          rfl
        · intro ac w hC hBA hd hk K hK
          have e9 : ac.tmps[9]?.getD undef = (.pointer (some ⟨g9, 0, none⟩) : Value) := slot (get_keep (hk 9 (no_dst (by kernel_rfl))) rfl)
          refine yes (want_n rfl) ?_
          have hv := hid (hK (.pointer (some ⟨g9, 5, none⟩)) w (PrV.is rfl rfl) (fun e => absurd e (by decide)) (fun _ => ⟨id, id⟩) (fun _ _ _ h => h))
          clear hK hC hBA hd hk
          go_simp
          refine kq hv.out ?_
          rfl
        · intro ac w hC hBA hd hk K hK
          have e141 : ac.tmps[141]?.getD undef = (.pointer (some ⟨g9, 5, none⟩) : Value) := slot ((hd 3 _ 141 rfl rfl rfl).val rfl)
          have x0 := (h9.out.kt hT9 (hkA.then (hBA.elim id id))).cells.2.2.2
          refine yes (want_n rfl) ?_
          have hv := hid (hK (.int .i64 num) w (PrV.is rfl rfl) (fun e => absurd e (by decide)) (fun _ => ⟨id, id⟩) (fun _ _ _ h => h))
          clear hK hC hBA hd hk
          go_simp
          refine kq hv.out ?_
          rfl
        · intro ac w hC hBA hd hk K hK
          refine yes (want_n rfl) ?_
          refine wp_callv 20 _ _ rfl _ Try.func20 rfl rfl _ (args2 ((hd 2 _ 140 rfl rfl rfl).val rfl) ((hd 4 _ 142 rfl rfl rfl).val rfl)) (kR w (hNA.below (hC rfl)) (hkA.then (hC rfl))) ?_
          rintro e w' ⟨a1, n1, c1, R1, b2, c2, rfl, hat2, hb2, hS, _, hbw⟩
          exact ⟨_, rfl, hK _ w' (PrV.by rfl ⟨a1, n1, c1, R1, b2, c2, rfl, hS, hat2, hb2⟩) (fun _ => bnext (hC rfl) hbw) (fun h => absurd rfl h) (fun j u hj h => PrV.mono2 (R20.below hbw) h)⟩
        · intro ac w hC hBA hd hk K hK
          obtain ⟨a1, n1, c1, R1, b2, c2, e1, hS, hat2, hb2⟩ := ((hd 5 _ 143 rfl rfl rfl).out rfl)
          exact yes (want_n rfl) (wp_mv _ rfl _ e1 (hK _ w (PrV.by rfl ⟨a1, n1, c1, R1, b2, c2, rfl, hS, hat2, hb2⟩) (fun e => absurd e (by decide)) (fun _ => ⟨id, id⟩) (fun _ _ _ h => h)))
        · intro ac w hC hBA hd hk K hK
          obtain ⟨a1, n1, c1, R1, b2, c2, e1, hS, hat2, hb2⟩ := ((hd 6 _ 137 rfl rfl rfl).out rfl)
          have e2 := slot e1
          refine yes (want_n rfl) ?_
          have hv := hid (hK (.agg #[.slice a1 n1 c1, .int .i64 (last : Int)]) w (PrV.by rfl ⟨a1, n1, c1, R1, rfl, hS⟩) (fun e => absurd e (by decide)) (fun _ => ⟨id, id⟩) (fun _ _ _ h => h))
          clear hK hC hBA hd hk hS
          go_simp
          exact hv.out
        · intro ac w hC hBA hd hk K hK
          obtain ⟨a1, n1, c1, R1, b2, c2, e1, hS, hat2, hb2⟩ := ((hd 6 _ 137 rfl rfl rfl).out rfl)
          have e2 := slot e1
          refine yes (want_n rfl) ?_
          have hv := hid (hK (.agg #[.int .i64 X0, .int .i64 X1, .int .i64 X2, .slice b2 B.length c2]) w (PrV.by rfl ⟨b2, c2, rfl, hat2, hb2⟩) (fun e => absurd e (by decide)) (fun _ => ⟨id, id⟩) (fun _ _ _ h => h))
          clear hK hC hBA hd hk hS
          go_simp
          exact hv.out
        · intro ac w hC hBA hd hk K hK
          obtain ⟨a1, n1, c1, R1, b2, c2, e1, hS, hat2, hb2⟩ := ((hd 6 _ 137 rfl rfl rfl).out rfl)
          have e2 := slot e1
          refine yes (want_n rfl) ?_
          have hv := hid (hK (.int .i64 ec) w (PrV.by rfl rfl) (fun e => absurd e (by decide)) (fun _ => ⟨id, id⟩) (fun _ _ _ h => h))
          clear hK hC hBA hd hk hS
          go_simp
          exact hv.out
        · intro ac w hC hBA hd hk K hK
          have hbl := below_lit w (.cells z40 40)
          have hsz := (hBA.elim id id : Below wA.heap.size wA w).size
          have hv := hid (hK (.pointer (some ⟨w.heap.size, 0, none⟩)) (w.alloc (.cells z40 40)) (PrV.by rfl ⟨w.heap.size, rfl, hsz, by rw [World.size_alloc]; omega, heap_alloc_new w _⟩) (fun e => absurd e (by decide)) (fun _ => ⟨fun h => bnext h hbl, fun h => bnext h hbl⟩) (fun j u hj h => PrV.mono2 (R20.below hbl) h))
          refine yes (want_n rfl) ?_
          clear hK hC hBA hd hk
          go_simp
          exact hv.out
        · intro ac w hC hBA hd hk K hK
          have hbl := below_lit w (.cells z31 31)
          have hsz := (hBA.elim id id : Below wA.heap.size wA w).size
          have hv := hid (hK (.pointer (some ⟨w.heap.size, 0, none⟩)) (w.alloc (.cells z31 31)) (PrV.by rfl ⟨w.heap.size, rfl, hsz, by rw [World.size_alloc]; omega, heap_alloc_new w _⟩) (fun e => absurd e (by decide)) (fun _ => ⟨fun h => bnext h hbl, fun h => bnext h hbl⟩) (fun j u hj h => PrV.mono2 (R20.below hbl) h))
          refine yes (want_n rfl) ?_
          clear hK hC hBA hd hk
          go_simp
          exact hv.out
      · intro bb ac wB hdf hsz hkp hval bB
        obtain ⟨_, _, _, _, b2, c2, q137, _, hat2, hb2⟩ := (hval 6 _ 137 (fun h => absurd h (by decide)) rfl rfl).out rfl
        obtain ⟨a1, n1, c1, R1, q144, hS⟩ := (hval 7 _ 144 (fun h => absurd h (by decide)) rfl rfl).out rfl
        obtain ⟨g40, q20, hg40, hl40, hz40⟩ := (hval 10 _ 20 (fun h => absurd h (by decide)) rfl rfl).out rfl
        obtain ⟨g31, q21, hg31, hl31, hz31⟩ := (hval 11 _ 21 (fun h => absurd h (by decide)) rfl rfl).out rfl
        obtain ⟨f, hf⟩ : ∃ f, f = fun d => ac.tmps.getD d undef := ⟨_, rfl⟩
        have h137 := (congrFun hf 137).trans q137
        have h144 := (congrFun hf 144).trans q144
        have h20 := (congrFun hf 20).trans q20
        have h21 := (congrFun hf 21).trans q21
        have hfa := act_filled hdf hsz hkp
        rw [← hf] at hfa
        rw [hfa]
        cases hb8 : bb 8
        · skip
          cases hb9 : bb 9
          · skip
            have hlag : lagOf 15 12 [8, 9] bb = #[true, true, true, true, true, true, true, true, false, false, true, true, false, false, false] := by rw [show lagOf 15 12 [8, 9] bb = #[true, true, true, true, true, true, true, true, bb 8, bb 9, true, true, false, false, false] from rfl, hb8, hb9]
            change wpAny Try.prog .any _ _ (15 - (lagOf 15 12 [8, 9] bb).toList.count true) (lagOf 15 12 [8, 9] bb) _ _
            rw [hlag]
            clear hlag hdf hsz hkp hval hfa hf
            simp only [fillAll, List.take, List.set_cons_zero, List.set_cons_succ, h137, h144, h20, h21]
            clear h137 h144 h20 h21 q137 q144 q20 q21 hb8 hb9
            have hne : ¬ g40 = g31 := fun e => by rw [e, hz31] at hz40; simp at hz40
            have hne2 : ¬ g31 = g40 := fun e => hne e.symm
            have hz40' : wB.heap[g40]? = some (.cells #[.slice none 0 0, .int .i64 0] 40 (0, 0)) := hz40
            have hz31' : wB.heap[g31]? = some (.cells #[.int .i64 0, .int .i64 0, .int .i64 0, .slice none 0 0] 31 (0, 0)) := hz31
            have y0 : wB.cell? ⟨g40, 0, none⟩ = some (.slice none 0 0) := by simp [World.cell?, hz40']
            have y1 : wB.cell? ⟨g40, 1, none⟩ = some (.int .i64 0) := by simp [World.cell?, hz40']
            have u0 : wB.frozen? ⟨g40, 0, none⟩ = false := by simp [World.frozen?, hz40']
            have u1 : wB.frozen? ⟨g40, 1, none⟩ = false := by simp [World.frozen?, hz40']
            have x0 : wB.cell? ⟨g31, 0, none⟩ = some (.int .i64 0) := by simp [World.cell?, hz31']
            have x1 : wB.cell? ⟨g31, 1, none⟩ = some (.int .i64 0) := by simp [World.cell?, hz31']
            have x2 : wB.cell? ⟨g31, 2, none⟩ = some (.int .i64 0) := by simp [World.cell?, hz31']
            have x3 : wB.cell? ⟨g31, 3, none⟩ = some (.slice none 0 0) := by simp [World.cell?, hz31']
            have v0 : wB.frozen? ⟨g31, 0, none⟩ = false := by simp [World.frozen?, hz31']
            have v1 : wB.frozen? ⟨g31, 1, none⟩ = false := by simp [World.frozen?, hz31']
            have v2 : wB.frozen? ⟨g31, 2, none⟩ = false := by simp [World.frozen?, hz31']
            have v3 : wB.frozen? ⟨g31, 3, none⟩ = false := by simp [World.frozen?, hz31']
            have hzz : ∀ k, (k = g40 ∨ k = g31) → ZB wB k ∧ wA.heap.size ≤ k := fun k e => by
              rcases e with rfl | rfl
              · exact ⟨.inl hz40', hg40⟩
              · exact ⟨.inr hz31', hg31⟩
            have hkS := six_cells wB g40 g31 (.slice a1 n1 c1) (.int .i64 (last : Int)) (.int .i64 X0) (.int .i64 X1) (.int .i64 X2) (.slice b2 B.length c2)
            have hSS := hid (hS.news hkS hzz (fun q hq x hx => hNA.bodies.lt q hq x hx) hNA.lt hNA.own.lt)
            have hrb := six_r wB g40 g31 hne hz40' (.slice a1 n1 c1) (.int .i64 (last : Int)) (.int .i64 X0) (.int .i64 X1) (.int .i64 X2) (.slice b2 B.length c2)
            have hpb := six_p wB g40 g31 hne hz31' (.slice a1 n1 c1) (.int .i64 (last : Int)) (.int .i64 X0) (.int .i64 X1) (.int .i64 X2) (.slice b2 B.length c2)
            have hat2S := hat2.kp hkS (fun x hx e => by have h1 := (hb2 x hx).1; have h2 := (hzz _ e).2; have h3 := hkA.size; omega)
            have hglB : ¬ gl = g40 ∧ ¬ gl = g31 := ⟨fun e => by have h1 := V.llt; have h3 := hkA.size; omega, fun e => by have h1 := V.llt; have h3 := hkA.size; omega⟩
            have hglS := hkS.block gl (by have h1 := V.llt; have h3 := hkA.size; have h4 := bB.size; omega) (fun e => by rcases e with e | e; exact hglB.1 e; exact hglB.2 e)
            rw [bB.block gl (by have h1 := V.llt; have h3 := hkA.size; omega), V.gla hkA] at hglS
            have hX : ∀ k, (k = g40 ∨ k = g31) → w.heap.size ≤ k := fun k e => Nat.le_trans hkA.size (hzz k e).2
            have hgg : gl < wB.heap.size ∧ g40 < wB.heap.size ∧ g31 < wB.heap.size := ⟨by have h1 := V.llt; have h3 := hkA.size; have h4 := bB.size; omega, hl40, hl31⟩
            replace hS := hid hS
            replace hat2 := hid hat2
            replace hb2 := hid hb2
            replace hz40 := hid hz40
            replace hz31 := hid hz31
            replace hz40' := hid hz40'
            replace hz31' := hid hz31'
            replace hzz := hid hzz
            replace hkS := hid hkS
            replace hrb := hid hrb
            replace hpb := hid hpb
            replace hat2S := hid hat2S
            replace hglS := hid hglS
            replace hX := hid hX
            replace hglB := hid hglB
            replace V := hid V
            replace hNA := hid hNA
            replace hkA := hid hkA
            replace bB := hid bB
            try clear kR
            change wpAny Try.prog .any _ _ (4 + 1) _ _ _
            refine wpAny_take (i := 8) (v := .agg #[.int .i64 X0, .int .i64 X1, .int .i64 X2, .slice b2 B.length c2]) rfl (by kernel_rfl) (by kernel_rfl) (by kernel_rfl) (fun _ _ _ h => h) (Or.inl ⟨by rfl, ?_⟩) ?_
            · intro w
              go_simp
            change wpAny Try.prog .any _ _ (3 + 1) _ _ _
            refine wpAny_take (i := 9) (v := .int .i64 ec) rfl (by kernel_rfl) (by kernel_rfl) (by kernel_rfl) (fun _ _ _ h => h) (Or.inl ⟨by rfl, ?_⟩) ?_
            · intro w
              go_simp
            change wpAny Try.prog .any _ _ (2 + 1) _ _ _
            refine wpAny_ready (rs := [12]) (by kernel_rfl) (by simp) ?_
            refine AllReady.cons rfl (fun K hK => ?_) AllReady.nil
            go_simp
            refine hK _ _ ?_
            clear hK K
            change wpAny Try.prog .any _ _ (1 + 1) _ _ _
            refine wpAny_ready (rs := [13]) (by kernel_rfl) (by simp) ?_
            refine AllReady.cons rfl (fun K hK => ?_) AllReady.nil
            go_simp
            refine hK _ _ ?_
            clear hK K
            change wpAny Try.prog .any _ _ (0 + 1) _ _ _
            refine wpAny_ready (rs := [14]) (by kernel_rfl) (by simp) ?_
            refine AllReady.cons rfl (fun K hK => ?_) AllReady.nil
            go_simp
            refine hK _ _ ?_
            clear hK K
            refine wpAny_done (by kernel_rfl) ?_ _
            replace V := V.out
            replace hNA := hNA.out
            replace hkA := hkA.out
            replace bB := bB.out
            clear y0 y1 u0 u1 x0 x1 x2 x3 v0 v1 v2 v3 hne hne2
            generalize (((((wB.setCell ⟨g40, 0, none⟩ (.slice a1 n1 c1)).setCell ⟨g40, 1, none⟩ (.int .i64 (last : Int))).setCell ⟨g31, 0, none⟩ (.int .i64 X0)).setCell ⟨g31, 1, none⟩ (.int .i64 X1)).setCell ⟨g31, 2, none⟩ (.int .i64 X2)).setCell ⟨g31, 3, none⟩ (.slice b2 B.length c2) = wS at *
            have r0 := hrb.out.cell0
            have r1 := hrb.out.cell1
            have l0 := (lcell hglS.out hon).1
            have l1 := (lcell hglS.out hon).2.1
            have k0 := (lcell hglS.out hon).2.2.1
            have k1 := (lcell hglS.out hon).2.2.2
            have hfin := V.fin hkA bB hkS.out hX.out hbw hSS.out
            replace V := hid V
            replace hNA := hid hNA
            replace hkA := hid hkA
            replace bB := hid bB
            replace hfin := hid hfin
            have hp18S := hid (show PBlk wS g18 (.int .i64 X0) (.int .i64 X1) (.int .i64 X2) (.slice b1 B.length cq) from ((hkS.out.block g18 (by have h1 := bB.out.size; have h2 := hp18.out.lt'; omega) (fun e => by have h1 := (hzz.out g18 e).2; have h2 := hp18.out.lt'; omega)).trans (bB.out.block g18 hp18.out.lt')).trans hp18.out)
            have hat1S := hid (hat1.out.new hkS.out bB.out (fun k e => (hzz.out k e).2))
            obtain ⟨s0, s1, s2, s3⟩ := hp18S.out.four
            obtain ⟨t0, t1, t2, t3⟩ := hpb.out.four
            have hn1 : ¬ gl = g18 := fun e => by have h1 := V.out.llt; omega
            have hn2 : ¬ g18 = gl := fun e => hn1 e.symm
            have hn3 : ¬ gl = g31 := hglB.out.2
            have hn4 : ¬ g31 = gl := fun e => hn3 e.symm
            have hz1 := hp18S.out.lt'
            have hz2 := hpb.out.lt'
            have kE := hid (two_gl wS gl on (.slice a1 n1 c1) (.int .i64 (last : Int)))
            have hat1E := hid (hat1S.out.kp kE.out (fun x hx e => by have h1 := hb1n.out x hx; exact h1 e))
            have hat2E := hid (hat2S.out.kp kE.out (fun x hx e => (hb2.out x hx).2 (by simp [T6, e])))
            go_wp2_with fail
            have hsE : ((wS.setCell ⟨gl, on * 2, none⟩ (.slice a1 n1 c1)).setCell ⟨gl, on * 2 + 1, none⟩ (.int .i64 (last : Int))).heap.size = wS.heap.size := by simp [World.setCell]
            generalize (wS.setCell ⟨gl, on * 2, none⟩ (.slice a1 n1 c1)).setCell ⟨gl, on * 2 + 1, none⟩ (.int .i64 (last : Int)) = wE at *
            have bl1 := below_lit wE (.cells #[.int .i64 X0, .int .i64 X1, .int .i64 X2, .slice b1 B.length cq] 31)
            have bl2 := below_lit (wE.alloc (.cells #[.int .i64 X0, .int .i64 X1, .int .i64 X2, .slice b1 B.length cq] 31)) (.cells #[.int .i64 X0, .int .i64 X1, .int .i64 X2, .slice b2 B.length c2] 31)
            have q1 := rat_lit bl2 ((hat1E.out.below bl1).below bl2)
            have q2 := rat_lit (Below.refl _ _) ((hat2E.out.below bl1).below bl2)
            rw [World.size_alloc] at q2
            rw [hsE] at q1 q2
            refine (samep_any (some ⟨wS.heap.size, 0, none⟩) (some ⟨wS.heap.size + 1, 0, none⟩) 1 1 1 [⟨X0, X1, X2, b1, cq, B⟩] [⟨X0, X1, X2, b2, c2, B⟩] _ rfl rfl q1 q2 (by omega)).mono ?_
            rintro e w9 ⟨rfl, b9⟩
            have bE9 := bnext (bnext bl1 bl2) b9
            have hV9 := hid (hfin.out.1.below bE9)
            have hB9 := hid (hfin.out.2.trans (bE9.mono (Nat.le_trans hbw hfin.out.2.size)))
            clear q1 q2 bl1 bl2 b9 s0 s1 s2 s3 t0 t1 t2 t3
            go_wp2_with fail
            have hPN : PN base gd gl on w9 (b + 1) := ⟨_, _, _, _, _, _, _, _, _, _, _, _, _, _, _, _, hV9.out, by omega, by omega⟩
            exact hN.out _ _ _ _ _ _ _ _ _ _ _ _ _ _ _ _ _ _ _ _ _ _ _ _ _ _ _ _ _ _ _ _ _ _ _ _ _ _ _ _ _ _ _ _ _ _ _ _ _ _ _ _ _ _ _ _ _ _ _ _ _ _ _ _ _ _ _ _ _ _ _ _ _ _ _ _ _ _ _ _ _ _ _ _ _ _ _ _ _ _ _ _ _ _ _ _ _ _ _ _ _ _ _ _ _ _ _ _ _ _ _ _ _ _ _ _ _ _ _ _ _ _ _ _ _ _ _ _ _ _ _ _ _ _ _ _ _ _ _ _ _ _ _ _ _ _ _ _ _ _ _ _ _ _ _ _ _ _ _ _ _ _ _ _ _ _ _ _ _ _ _ _ _ _ _ _ hPN hB9.out
          · skip
            have hlag : lagOf 15 12 [8, 9] bb = #[true, true, true, true, true, true, true, true, false, true, true, true, false, false, false] := by rw [show lagOf 15 12 [8, 9] bb = #[true, true, true, true, true, true, true, true, bb 8, bb 9, true, true, false, false, false] from rfl, hb8, hb9]
            obtain q146 := (hval 9 _ 146 (fun _ => hb9) rfl rfl).out rfl
            have h146 := (congrFun hf 146).trans q146
            change wpAny Try.prog .any _ _ (15 - (lagOf 15 12 [8, 9] bb).toList.count true) (lagOf 15 12 [8, 9] bb) _ _
            rw [hlag]
            clear hlag hdf hsz hkp hval hfa hf
            simp only [fillAll, List.take, List.set_cons_zero, List.set_cons_succ, h137, h144, h20, h21, h146]
            clear h137 h144 h20 h21 h146 q137 q144 q20 q21 q146 hb8 hb9
            have hne : ¬ g40 = g31 := fun e => by rw [e, hz31] at hz40; simp at hz40
            have hne2 : ¬ g31 = g40 := fun e => hne e.symm
            have hz40' : wB.heap[g40]? = some (.cells #[.slice none 0 0, .int .i64 0] 40 (0, 0)) := hz40
            have hz31' : wB.heap[g31]? = some (.cells #[.int .i64 0, .int .i64 0, .int .i64 0, .slice none 0 0] 31 (0, 0)) := hz31
            have y0 : wB.cell? ⟨g40, 0, none⟩ = some (.slice none 0 0) := by simp [World.cell?, hz40']
            have y1 : wB.cell? ⟨g40, 1, none⟩ = some (.int .i64 0) := by simp [World.cell?, hz40']
            have u0 : wB.frozen? ⟨g40, 0, none⟩ = false := by simp [World.frozen?, hz40']
            have u1 : wB.frozen? ⟨g40, 1, none⟩ = false := by simp [World.frozen?, hz40']
            have x0 : wB.cell? ⟨g31, 0, none⟩ = some (.int .i64 0) := by simp [World.cell?, hz31']
            have x1 : wB.cell? ⟨g31, 1, none⟩ = some (.int .i64 0) := by simp [World.cell?, hz31']
            have x2 : wB.cell? ⟨g31, 2, none⟩ = some (.int .i64 0) := by simp [World.cell?, hz31']
            have x3 : wB.cell? ⟨g31, 3, none⟩ = some (.slice none 0 0) := by simp [World.cell?, hz31']
            have v0 : wB.frozen? ⟨g31, 0, none⟩ = false := by simp [World.frozen?, hz31']
            have v1 : wB.frozen? ⟨g31, 1, none⟩ = false := by simp [World.frozen?, hz31']
            have v2 : wB.frozen? ⟨g31, 2, none⟩ = false := by simp [World.frozen?, hz31']
            have v3 : wB.frozen? ⟨g31, 3, none⟩ = false := by simp [World.frozen?, hz31']
            have hzz : ∀ k, (k = g40 ∨ k = g31) → ZB wB k ∧ wA.heap.size ≤ k := fun k e => by
              rcases e with rfl | rfl
              · exact ⟨.inl hz40', hg40⟩
              · exact ⟨.inr hz31', hg31⟩
            have hkS := six_cells wB g40 g31 (.slice a1 n1 c1) (.int .i64 (last : Int)) (.int .i64 X0) (.int .i64 X1) (.int .i64 X2) (.slice b2 B.length c2)
            have hSS := hid (hS.news hkS hzz (fun q hq x hx => hNA.bodies.lt q hq x hx) hNA.lt hNA.own.lt)
            have hrb := six_r wB g40 g31 hne hz40' (.slice a1 n1 c1) (.int .i64 (last : Int)) (.int .i64 X0) (.int .i64 X1) (.int .i64 X2) (.slice b2 B.length c2)
            have hpb := six_p wB g40 g31 hne hz31' (.slice a1 n1 c1) (.int .i64 (last : Int)) (.int .i64 X0) (.int .i64 X1) (.int .i64 X2) (.slice b2 B.length c2)
            have hat2S := hat2.kp hkS (fun x hx e => by have h1 := (hb2 x hx).1; have h2 := (hzz _ e).2; have h3 := hkA.size; omega)
            have hglB : ¬ gl = g40 ∧ ¬ gl = g31 := ⟨fun e => by have h1 := V.llt; have h3 := hkA.size; omega, fun e => by have h1 := V.llt; have h3 := hkA.size; omega⟩
            have hglS := hkS.block gl (by have h1 := V.llt; have h3 := hkA.size; have h4 := bB.size; omega) (fun e => by rcases e with e | e; exact hglB.1 e; exact hglB.2 e)
            rw [bB.block gl (by have h1 := V.llt; have h3 := hkA.size; omega), V.gla hkA] at hglS
            have hX : ∀ k, (k = g40 ∨ k = g31) → w.heap.size ≤ k := fun k e => Nat.le_trans hkA.size (hzz k e).2
            have hgg : gl < wB.heap.size ∧ g40 < wB.heap.size ∧ g31 < wB.heap.size := ⟨by have h1 := V.llt; have h3 := hkA.size; have h4 := bB.size; omega, hl40, hl31⟩
            replace hS := hid hS
            replace hat2 := hid hat2
            replace hb2 := hid hb2
            replace hz40 := hid hz40
            replace hz31 := hid hz31
            replace hz40' := hid hz40'
            replace hz31' := hid hz31'
            replace hzz := hid hzz
            replace hkS := hid hkS
            replace hrb := hid hrb
            replace hpb := hid hpb
            replace hat2S := hid hat2S
            replace hglS := hid hglS
            replace hX := hid hX
            replace hglB := hid hglB
            replace V := hid V
            replace hNA := hid hNA
            replace hkA := hid hkA
            replace bB := hid bB
            try clear kR
            change wpAny Try.prog .any _ _ (3 + 1) _ _ _
            refine wpAny_take (i := 8) (v := .agg #[.int .i64 X0, .int .i64 X1, .int .i64 X2, .slice b2 B.length c2]) rfl (by kernel_rfl) (by kernel_rfl) (by kernel_rfl) (fun _ _ _ h => h) (Or.inl ⟨by rfl, ?_⟩) ?_
            · intro w
              go_simp
            change wpAny Try.prog .any _ _ (2 + 1) _ _ _
            refine wpAny_ready (rs := [12]) (by kernel_rfl) (by simp) ?_
            refine AllReady.cons rfl (fun K hK => ?_) AllReady.nil
            go_simp
            refine hK _ _ ?_
            clear hK K
            change wpAny Try.prog .any _ _ (1 + 1) _ _ _
            refine wpAny_ready (rs := [13]) (by kernel_rfl) (by simp) ?_
            refine AllReady.cons rfl (fun K hK => ?_) AllReady.nil
            go_simp
            refine hK _ _ ?_
            clear hK K
            change wpAny Try.prog .any _ _ (0 + 1) _ _ _
            refine wpAny_ready (rs := [14]) (by kernel_rfl) (by simp) ?_
            refine AllReady.cons rfl (fun K hK => ?_) AllReady.nil
            go_simp
            refine hK _ _ ?_
            clear hK K
            refine wpAny_done (by kernel_rfl) ?_ _
            replace V := V.out
            replace hNA := hNA.out
            replace hkA := hkA.out
            replace bB := bB.out
            clear y0 y1 u0 u1 x0 x1 x2 x3 v0 v1 v2 v3 hne hne2
            generalize (((((wB.setCell ⟨g40, 0, none⟩ (.slice a1 n1 c1)).setCell ⟨g40, 1, none⟩ (.int .i64 (last : Int))).setCell ⟨g31, 0, none⟩ (.int .i64 X0)).setCell ⟨g31, 1, none⟩ (.int .i64 X1)).setCell ⟨g31, 2, none⟩ (.int .i64 X2)).setCell ⟨g31, 3, none⟩ (.slice b2 B.length c2) = wS at *
            have r0 := hrb.out.cell0
            have r1 := hrb.out.cell1
            have l0 := (lcell hglS.out hon).1
            have l1 := (lcell hglS.out hon).2.1
            have k0 := (lcell hglS.out hon).2.2.1
            have k1 := (lcell hglS.out hon).2.2.2
            have hfin := V.fin hkA bB hkS.out hX.out hbw hSS.out
            replace V := hid V
            replace hNA := hid hNA
            replace hkA := hid hkA
            replace bB := hid bB
            replace hfin := hid hfin
            have hp18S := hid (show PBlk wS g18 (.int .i64 X0) (.int .i64 X1) (.int .i64 X2) (.slice b1 B.length cq) from ((hkS.out.block g18 (by have h1 := bB.out.size; have h2 := hp18.out.lt'; omega) (fun e => by have h1 := (hzz.out g18 e).2; have h2 := hp18.out.lt'; omega)).trans (bB.out.block g18 hp18.out.lt')).trans hp18.out)
            have hat1S := hid (hat1.out.new hkS.out bB.out (fun k e => (hzz.out k e).2))
            obtain ⟨s0, s1, s2, s3⟩ := hp18S.out.four
            obtain ⟨t0, t1, t2, t3⟩ := hpb.out.four
            have hn1 : ¬ gl = g18 := fun e => by have h1 := V.out.llt; omega
            have hn2 : ¬ g18 = gl := fun e => hn1 e.symm
            have hn3 : ¬ gl = g31 := hglB.out.2
            have hn4 : ¬ g31 = gl := fun e => hn3 e.symm
            have hz1 := hp18S.out.lt'
            have hz2 := hpb.out.lt'
            have kE := hid (two_gl wS gl on (.slice a1 n1 c1) (.int .i64 (last : Int)))
            have hat1E := hid (hat1S.out.kp kE.out (fun x hx e => by have h1 := hb1n.out x hx; exact h1 e))
            have hat2E := hid (hat2S.out.kp kE.out (fun x hx e => (hb2.out x hx).2 (by simp [T6, e])))
            go_wp2_with fail
            have hsE : ((wS.setCell ⟨gl, on * 2, none⟩ (.slice a1 n1 c1)).setCell ⟨gl, on * 2 + 1, none⟩ (.int .i64 (last : Int))).heap.size = wS.heap.size := by simp [World.setCell]
            generalize (wS.setCell ⟨gl, on * 2, none⟩ (.slice a1 n1 c1)).setCell ⟨gl, on * 2 + 1, none⟩ (.int .i64 (last : Int)) = wE at *
            have bl1 := below_lit wE (.cells #[.int .i64 X0, .int .i64 X1, .int .i64 X2, .slice b1 B.length cq] 31)
            have bl2 := below_lit (wE.alloc (.cells #[.int .i64 X0, .int .i64 X1, .int .i64 X2, .slice b1 B.length cq] 31)) (.cells #[.int .i64 X0, .int .i64 X1, .int .i64 X2, .slice b2 B.length c2] 31)
            have q1 := rat_lit bl2 ((hat1E.out.below bl1).below bl2)
            have q2 := rat_lit (Below.refl _ _) ((hat2E.out.below bl1).below bl2)
            rw [World.size_alloc] at q2
            rw [hsE] at q1 q2
            refine (samep_any (some ⟨wS.heap.size, 0, none⟩) (some ⟨wS.heap.size + 1, 0, none⟩) 1 1 1 [⟨X0, X1, X2, b1, cq, B⟩] [⟨X0, X1, X2, b2, c2, B⟩] _ rfl rfl q1 q2 (by omega)).mono ?_
            rintro e w9 ⟨rfl, b9⟩
            have bE9 := bnext (bnext bl1 bl2) b9
            have hV9 := hid (hfin.out.1.below bE9)
            have hB9 := hid (hfin.out.2.trans (bE9.mono (Nat.le_trans hbw hfin.out.2.size)))
            clear q1 q2 bl1 bl2 b9 s0 s1 s2 s3 t0 t1 t2 t3
            go_wp2_with fail
            have hPN : PN base gd gl on w9 (b + 1) := ⟨_, _, _, _, _, _, _, _, _, _, _, _, _, _, _, _, hV9.out, by omega, by omega⟩
            exact hN.out _ _ _ _ _ _ _ _ _ _ _ _ _ _ _ _ _ _ _ _ _ _ _ _ _ _ _ _ _ _ _ _ _ _ _ _ _ _ _ _ _ _ _ _ _ _ _ _ _ _ _ _ _ _ _ _ _ _ _ _ _ _ _ _ _ _ _ _ _ _ _ _ _ _ _ _ _ _ _ _ _ _ _ _ _ _ _ _ _ _ _ _ _ _ _ _ _ _ _ _ _ _ _ _ _ _ _ _ _ _ _ _ _ _ _ _ _ _ _ _ _ _ _ _ _ _ _ _ _ _ _ _ _ _ _ _ _ _ _ _ _ _ _ _ _ _ _ _ _ _ _ _ _ _ _ _ _ _ _ _ _ _ _ _ _ _ _ _ _ _ _ _ _ _ _ _ hPN hB9.out
        · skip
          cases hb9 : bb 9
          · skip
            have hlag : lagOf 15 12 [8, 9] bb = #[true, true, true, true, true, true, true, true, true, false, true, true, false, false, false] := by rw [show lagOf 15 12 [8, 9] bb = #[true, true, true, true, true, true, true, true, bb 8, bb 9, true, true, false, false, false] from rfl, hb8, hb9]
            clear hat2 hb2
            obtain ⟨b2, c2, q145, hat2, hb2⟩ := (hval 8 _ 145 (fun _ => hb8) rfl rfl).out rfl
            have h145 := (congrFun hf 145).trans q145
            change wpAny Try.prog .any _ _ (15 - (lagOf 15 12 [8, 9] bb).toList.count true) (lagOf 15 12 [8, 9] bb) _ _
            rw [hlag]
            clear hlag hdf hsz hkp hval hfa hf
            simp only [fillAll, List.take, List.set_cons_zero, List.set_cons_succ, h137, h144, h20, h21, h145]
            clear h137 h144 h20 h21 h145 q137 q144 q20 q21 q145 hb8 hb9
            have hne : ¬ g40 = g31 := fun e => by rw [e, hz31] at hz40; simp at hz40
            have hne2 : ¬ g31 = g40 := fun e => hne e.symm
            have hz40' : wB.heap[g40]? = some (.cells #[.slice none 0 0, .int .i64 0] 40 (0, 0)) := hz40
            have hz31' : wB.heap[g31]? = some (.cells #[.int .i64 0, .int .i64 0, .int .i64 0, .slice none 0 0] 31 (0, 0)) := hz31
            have y0 : wB.cell? ⟨g40, 0, none⟩ = some (.slice none 0 0) := by simp [World.cell?, hz40']
            have y1 : wB.cell? ⟨g40, 1, none⟩ = some (.int .i64 0) := by simp [World.cell?, hz40']
            have u0 : wB.frozen? ⟨g40, 0, none⟩ = false := by simp [World.frozen?, hz40']
            have u1 : wB.frozen? ⟨g40, 1, none⟩ = false := by simp [World.frozen?, hz40']
            have x0 : wB.cell? ⟨g31, 0, none⟩ = some (.int .i64 0) := by simp [World.cell?, hz31']
            have x1 : wB.cell? ⟨g31, 1, none⟩ = some (.int .i64 0) := by simp [World.cell?, hz31']
            have x2 : wB.cell? ⟨g31, 2, none⟩ = some (.int .i64 0) := by simp [World.cell?, hz31']
            have x3 : wB.cell? ⟨g31, 3, none⟩ = some (.slice none 0 0) := by simp [World.cell?, hz31']
            have v0 : wB.frozen? ⟨g31, 0, none⟩ = false := by simp [World.frozen?, hz31']
            have v1 : wB.frozen? ⟨g31, 1, none⟩ = false := by simp [World.frozen?, hz31']
            have v2 : wB.frozen? ⟨g31, 2, none⟩ = false := by simp [World.frozen?, hz31']
            have v3 : wB.frozen? ⟨g31, 3, none⟩ = false := by simp [World.frozen?, hz31']
            have hzz : ∀ k, (k = g40 ∨ k = g31) → ZB wB k ∧ wA.heap.size ≤ k := fun k e => by
              rcases e with rfl | rfl
              · exact ⟨.inl hz40', hg40⟩
              · exact ⟨.inr hz31', hg31⟩
            have hkS := six_cells wB g40 g31 (.slice a1 n1 c1) (.int .i64 (last : Int)) (.int .i64 X0) (.int .i64 X1) (.int .i64 X2) (.slice b2 B.length c2)
            have hSS := hid (hS.news hkS hzz (fun q hq x hx => hNA.bodies.lt q hq x hx) hNA.lt hNA.own.lt)
            have hrb := six_r wB g40 g31 hne hz40' (.slice a1 n1 c1) (.int .i64 (last : Int)) (.int .i64 X0) (.int .i64 X1) (.int .i64 X2) (.slice b2 B.length c2)
            have hpb := six_p wB g40 g31 hne hz31' (.slice a1 n1 c1) (.int .i64 (last : Int)) (.int .i64 X0) (.int .i64 X1) (.int .i64 X2) (.slice b2 B.length c2)
            have hat2S := hat2.kp hkS (fun x hx e => by have h1 := (hb2 x hx).1; have h2 := (hzz _ e).2; have h3 := hkA.size; omega)
            have hglB : ¬ gl = g40 ∧ ¬ gl = g31 := ⟨fun e => by have h1 := V.llt; have h3 := hkA.size; omega, fun e => by have h1 := V.llt; have h3 := hkA.size; omega⟩
            have hglS := hkS.block gl (by have h1 := V.llt; have h3 := hkA.size; have h4 := bB.size; omega) (fun e => by rcases e with e | e; exact hglB.1 e; exact hglB.2 e)
            rw [bB.block gl (by have h1 := V.llt; have h3 := hkA.size; omega), V.gla hkA] at hglS
            have hX : ∀ k, (k = g40 ∨ k = g31) → w.heap.size ≤ k := fun k e => Nat.le_trans hkA.size (hzz k e).2
            have hgg : gl < wB.heap.size ∧ g40 < wB.heap.size ∧ g31 < wB.heap.size := ⟨by have h1 := V.llt; have h3 := hkA.size; have h4 := bB.size; omega, hl40, hl31⟩
            replace hS := hid hS
            replace hat2 := hid hat2
            replace hb2 := hid hb2
            replace hz40 := hid hz40
            replace hz31 := hid hz31
            replace hz40' := hid hz40'
            replace hz31' := hid hz31'
            replace hzz := hid hzz
            replace hkS := hid hkS
            replace hrb := hid hrb
            replace hpb := hid hpb
            replace hat2S := hid hat2S
            replace hglS := hid hglS
            replace hX := hid hX
            replace hglB := hid hglB
            replace V := hid V
            replace hNA := hid hNA
            replace hkA := hid hkA
            replace bB := hid bB
            try clear kR
            change wpAny Try.prog .any _ _ (3 + 1) _ _ _
            refine wpAny_take (i := 9) (v := .int .i64 ec) rfl (by kernel_rfl) (by kernel_rfl) (by kernel_rfl) (fun _ _ _ h => h) (Or.inl ⟨by rfl, ?_⟩) ?_
            · intro w
              go_simp
            change wpAny Try.prog .any _ _ (2 + 1) _ _ _
            refine wpAny_ready (rs := [12]) (by kernel_rfl) (by simp) ?_
            refine AllReady.cons rfl (fun K hK => ?_) AllReady.nil
            go_simp
            refine hK _ _ ?_
            clear hK K
            change wpAny Try.prog .any _ _ (1 + 1) _ _ _
            refine wpAny_ready (rs := [13]) (by kernel_rfl) (by simp) ?_
            refine AllReady.cons rfl (fun K hK => ?_) AllReady.nil
            go_simp
            refine hK _ _ ?_
            clear hK K
            change wpAny Try.prog .any _ _ (0 + 1) _ _ _
            refine wpAny_ready (rs := [14]) (by kernel_rfl) (by simp) ?_
            refine AllReady.cons rfl (fun K hK => ?_) AllReady.nil
            go_simp
            refine hK _ _ ?_
            clear hK K
            refine wpAny_done (by kernel_rfl) ?_ _
            replace V := V.out
            replace hNA := hNA.out
            replace hkA := hkA.out
            replace bB := bB.out
            clear y0 y1 u0 u1 x0 x1 x2 x3 v0 v1 v2 v3 hne hne2
            generalize (((((wB.setCell ⟨g40, 0, none⟩ (.slice a1 n1 c1)).setCell ⟨g40, 1, none⟩ (.int .i64 (last : Int))).setCell ⟨g31, 0, none⟩ (.int .i64 X0)).setCell ⟨g31, 1, none⟩ (.int .i64 X1)).setCell ⟨g31, 2, none⟩ (.int .i64 X2)).setCell ⟨g31, 3, none⟩ (.slice b2 B.length c2) = wS at *
            have r0 := hrb.out.cell0
            have r1 := hrb.out.cell1
            have l0 := (lcell hglS.out hon).1
            have l1 := (lcell hglS.out hon).2.1
            have k0 := (lcell hglS.out hon).2.2.1
            have k1 := (lcell hglS.out hon).2.2.2
            have hfin := V.fin hkA bB hkS.out hX.out hbw hSS.out
            replace V := hid V
            replace hNA := hid hNA
            replace hkA := hid hkA
            replace bB := hid bB
            replace hfin := hid hfin
            have hp18S := hid (show PBlk wS g18 (.int .i64 X0) (.int .i64 X1) (.int .i64 X2) (.slice b1 B.length cq) from ((hkS.out.block g18 (by have h1 := bB.out.size; have h2 := hp18.out.lt'; omega) (fun e => by have h1 := (hzz.out g18 e).2; have h2 := hp18.out.lt'; omega)).trans (bB.out.block g18 hp18.out.lt')).trans hp18.out)
            have hat1S := hid (hat1.out.new hkS.out bB.out (fun k e => (hzz.out k e).2))
            obtain ⟨s0, s1, s2, s3⟩ := hp18S.out.four
            obtain ⟨t0, t1, t2, t3⟩ := hpb.out.four
            have hn1 : ¬ gl = g18 := fun e => by have h1 := V.out.llt; omega
            have hn2 : ¬ g18 = gl := fun e => hn1 e.symm
            have hn3 : ¬ gl = g31 := hglB.out.2
            have hn4 : ¬ g31 = gl := fun e => hn3 e.symm
            have hz1 := hp18S.out.lt'
            have hz2 := hpb.out.lt'
            have kE := hid (two_gl wS gl on (.slice a1 n1 c1) (.int .i64 (last : Int)))
            have hat1E := hid (hat1S.out.kp kE.out (fun x hx e => by have h1 := hb1n.out x hx; exact h1 e))
            have hat2E := hid (hat2S.out.kp kE.out (fun x hx e => (hb2.out x hx).2 (by simp [T6, e])))
            go_wp2_with fail
            have hsE : ((wS.setCell ⟨gl, on * 2, none⟩ (.slice a1 n1 c1)).setCell ⟨gl, on * 2 + 1, none⟩ (.int .i64 (last : Int))).heap.size = wS.heap.size := by simp [World.setCell]
            generalize (wS.setCell ⟨gl, on * 2, none⟩ (.slice a1 n1 c1)).setCell ⟨gl, on * 2 + 1, none⟩ (.int .i64 (last : Int)) = wE at *
            have bl1 := below_lit wE (.cells #[.int .i64 X0, .int .i64 X1, .int .i64 X2, .slice b1 B.length cq] 31)
            have bl2 := below_lit (wE.alloc (.cells #[.int .i64 X0, .int .i64 X1, .int .i64 X2, .slice b1 B.length cq] 31)) (.cells #[.int .i64 X0, .int .i64 X1, .int .i64 X2, .slice b2 B.length c2] 31)
            have q1 := rat_lit bl2 ((hat1E.out.below bl1).below bl2)
            have q2 := rat_lit (Below.refl _ _) ((hat2E.out.below bl1).below bl2)
            rw [World.size_alloc] at q2
            rw [hsE] at q1 q2
            refine (samep_any (some ⟨wS.heap.size, 0, none⟩) (some ⟨wS.heap.size + 1, 0, none⟩) 1 1 1 [⟨X0, X1, X2, b1, cq, B⟩] [⟨X0, X1, X2, b2, c2, B⟩] _ rfl rfl q1 q2 (by omega)).mono ?_
            rintro e w9 ⟨rfl, b9⟩
            have bE9 := bnext (bnext bl1 bl2) b9
            have hV9 := hid (hfin.out.1.below bE9)
            have hB9 := hid (hfin.out.2.trans (bE9.mono (Nat.le_trans hbw hfin.out.2.size)))
            clear q1 q2 bl1 bl2 b9 s0 s1 s2 s3 t0 t1 t2 t3
            go_wp2_with fail
            have hPN : PN base gd gl on w9 (b + 1) := ⟨_, _, _, _, _, _, _, _, _, _, _, _, _, _, _, _, hV9.out, by omega, by omega⟩
            exact hN.out _ _ _ _ _ _ _ _ _ _ _ _ _ _ _ _ _ _ _ _ _ _ _ _ _ _ _ _ _ _ _ _ _ _ _ _ _ _ _ _ _ _ _ _ _ _ _ _ _ _ _ _ _ _ _ _ _ _ _ _ _ _ _ _ _ _ _ _ _ _ _ _ _ _ _ _ _ _ _ _ _ _ _ _ _ _ _ _ _ _ _ _ _ _ _ _ _ _ _ _ _ _ _ _ _ _ _ _ _ _ _ _ _ _ _ _ _ _ _ _ _ _ _ _ _ _ _ _ _ _ _ _ _ _ _ _ _ _ _ _ _ _ _ _ _ _ _ _ _ _ _ _ _ _ _ _ _ _ _ _ _ _ _ _ _ _ _ _ _ _ _ _ _ _ _ _ hPN hB9.out
          · skip
            have hlag : lagOf 15 12 [8, 9] bb = #[true, true, true, true, true, true, true, true, true, true, true, true, false, false, false] := by rw [show lagOf 15 12 [8, 9] bb = #[true, true, true, true, true, true, true, true, bb 8, bb 9, true, true, false, false, false] from rfl, hb8, hb9]
            clear hat2 hb2
            obtain ⟨b2, c2, q145, hat2, hb2⟩ := (hval 8 _ 145 (fun _ => hb8) rfl rfl).out rfl
            have h145 := (congrFun hf 145).trans q145
            obtain q146 := (hval 9 _ 146 (fun _ => hb9) rfl rfl).out rfl
            have h146 := (congrFun hf 146).trans q146
            change wpAny Try.prog .any _ _ (15 - (lagOf 15 12 [8, 9] bb).toList.count true) (lagOf 15 12 [8, 9] bb) _ _
            rw [hlag]
            clear hlag hdf hsz hkp hval hfa hf
            simp only [fillAll, List.take, List.set_cons_zero, List.set_cons_succ, h137, h144, h20, h21, h145, h146]
            clear h137 h144 h20 h21 h145 h146 q137 q144 q20 q21 q145 q146 hb8 hb9
            have hne : ¬ g40 = g31 := fun e => by rw [e, hz31] at hz40; simp at hz40
            have hne2 : ¬ g31 = g40 := fun e => hne e.symm
            have hz40' : wB.heap[g40]? = some (.cells #[.slice none 0 0, .int .i64 0] 40 (0, 0)) := hz40
            have hz31' : wB.heap[g31]? = some (.cells #[.int .i64 0, .int .i64 0, .int .i64 0, .slice none 0 0] 31 (0, 0)) := hz31
            have y0 : wB.cell? ⟨g40, 0, none⟩ = some (.slice none 0 0) := by simp [World.cell?, hz40']
            have y1 : wB.cell? ⟨g40, 1, none⟩ = some (.int .i64 0) := by simp [World.cell?, hz40']
            have u0 : wB.frozen? ⟨g40, 0, none⟩ = false := by simp [World.frozen?, hz40']
            have u1 : wB.frozen? ⟨g40, 1, none⟩ = false := by simp [World.frozen?, hz40']
            have x0 : wB.cell? ⟨g31, 0, none⟩ = some (.int .i64 0) := by simp [World.cell?, hz31']
            have x1 : wB.cell? ⟨g31, 1, none⟩ = some (.int .i64 0) := by simp [World.cell?, hz31']
            have x2 : wB.cell? ⟨g31, 2, none⟩ = some (.int .i64 0) := by simp [World.cell?, hz31']
            have x3 : wB.cell? ⟨g31, 3, none⟩ = some (.slice none 0 0) := by simp [World.cell?, hz31']
            have v0 : wB.frozen? ⟨g31, 0, none⟩ = false := by simp [World.frozen?, hz31']
            have v1 : wB.frozen? ⟨g31, 1, none⟩ = false := by simp [World.frozen?, hz31']
            have v2 : wB.frozen? ⟨g31, 2, none⟩ = false := by simp [World.frozen?, hz31']
            have v3 : wB.frozen? ⟨g31, 3, none⟩ = false := by simp [World.frozen?, hz31']
            have hzz : ∀ k, (k = g40 ∨ k = g31) → ZB wB k ∧ wA.heap.size ≤ k := fun k e => by
              rcases e with rfl | rfl
              · exact ⟨.inl hz40', hg40⟩
              · exact ⟨.inr hz31', hg31⟩
            have hkS := six_cells wB g40 g31 (.slice a1 n1 c1) (.int .i64 (last : Int)) (.int .i64 X0) (.int .i64 X1) (.int .i64 X2) (.slice b2 B.length c2)
            have hSS := hid (hS.news hkS hzz (fun q hq x hx => hNA.bodies.lt q hq x hx) hNA.lt hNA.own.lt)
            have hrb := six_r wB g40 g31 hne hz40' (.slice a1 n1 c1) (.int .i64 (last : Int)) (.int .i64 X0) (.int .i64 X1) (.int .i64 X2) (.slice b2 B.length c2)
            have hpb := six_p wB g40 g31 hne hz31' (.slice a1 n1 c1) (.int .i64 (last : Int)) (.int .i64 X0) (.int .i64 X1) (.int .i64 X2) (.slice b2 B.length c2)
            have hat2S := hat2.kp hkS (fun x hx e => by have h1 := (hb2 x hx).1; have h2 := (hzz _ e).2; have h3 := hkA.size; omega)
            have hglB : ¬ gl = g40 ∧ ¬ gl = g31 := ⟨fun e => by have h1 := V.llt; have h3 := hkA.size; omega, fun e => by have h1 := V.llt; have h3 := hkA.size; omega⟩
            have hglS := hkS.block gl (by have h1 := V.llt; have h3 := hkA.size; have h4 := bB.size; omega) (fun e => by rcases e with e | e; exact hglB.1 e; exact hglB.2 e)
            rw [bB.block gl (by have h1 := V.llt; have h3 := hkA.size; omega), V.gla hkA] at hglS
            have hX : ∀ k, (k = g40 ∨ k = g31) → w.heap.size ≤ k := fun k e => Nat.le_trans hkA.size (hzz k e).2
            have hgg : gl < wB.heap.size ∧ g40 < wB.heap.size ∧ g31 < wB.heap.size := ⟨by have h1 := V.llt; have h3 := hkA.size; have h4 := bB.size; omega, hl40, hl31⟩
            replace hS := hid hS
            replace hat2 := hid hat2
            replace hb2 := hid hb2
            replace hz40 := hid hz40
            replace hz31 := hid hz31
            replace hz40' := hid hz40'
            replace hz31' := hid hz31'
            replace hzz := hid hzz
            replace hkS := hid hkS
            replace hrb := hid hrb
            replace hpb := hid hpb
            replace hat2S := hid hat2S
            replace hglS := hid hglS
            replace hX := hid hX
            replace hglB := hid hglB
            replace V := hid V
            replace hNA := hid hNA
            replace hkA := hid hkA
            replace bB := hid bB
            try clear kR
            change wpAny Try.prog .any _ _ (2 + 1) _ _ _
            refine wpAny_ready (rs := [12]) (by kernel_rfl) (by simp) ?_
            refine AllReady.cons rfl (fun K hK => ?_) AllReady.nil
            go_simp
            refine hK _ _ ?_
            clear hK K
            change wpAny Try.prog .any _ _ (1 + 1) _ _ _
            refine wpAny_ready (rs := [13]) (by kernel_rfl) (by simp) ?_
            refine AllReady.cons rfl (fun K hK => ?_) AllReady.nil
            go_simp
            refine hK _ _ ?_
            clear hK K
            change wpAny Try.prog .any _ _ (0 + 1) _ _ _
            refine wpAny_ready (rs := [14]) (by kernel_rfl) (by simp) ?_
            refine AllReady.cons rfl (fun K hK => ?_) AllReady.nil
            go_simp
            refine hK _ _ ?_
            clear hK K
            refine wpAny_done (by kernel_rfl) ?_ _
            replace V := V.out
            replace hNA := hNA.out
            replace hkA := hkA.out
            replace bB := bB.out
            clear y0 y1 u0 u1 x0 x1 x2 x3 v0 v1 v2 v3 hne hne2
            generalize (((((wB.setCell ⟨g40, 0, none⟩ (.slice a1 n1 c1)).setCell ⟨g40, 1, none⟩ (.int .i64 (last : Int))).setCell ⟨g31, 0, none⟩ (.int .i64 X0)).setCell ⟨g31, 1, none⟩ (.int .i64 X1)).setCell ⟨g31, 2, none⟩ (.int .i64 X2)).setCell ⟨g31, 3, none⟩ (.slice b2 B.length c2) = wS at *
            have r0 := hrb.out.cell0
            have r1 := hrb.out.cell1
            have l0 := (lcell hglS.out hon).1
            have l1 := (lcell hglS.out hon).2.1
            have k0 := (lcell hglS.out hon).2.2.1
            have k1 := (lcell hglS.out hon).2.2.2
            have hfin := V.fin hkA bB hkS.out hX.out hbw hSS.out
            replace V := hid V
            replace hNA := hid hNA
            replace hkA := hid hkA
            replace bB := hid bB
            replace hfin := hid hfin
            have hp18S := hid (show PBlk wS g18 (.int .i64 X0) (.int .i64 X1) (.int .i64 X2) (.slice b1 B.length cq) from ((hkS.out.block g18 (by have h1 := bB.out.size; have h2 := hp18.out.lt'; omega) (fun e => by have h1 := (hzz.out g18 e).2; have h2 := hp18.out.lt'; omega)).trans (bB.out.block g18 hp18.out.lt')).trans hp18.out)
            have hat1S := hid (hat1.out.new hkS.out bB.out (fun k e => (hzz.out k e).2))
            obtain ⟨s0, s1, s2, s3⟩ := hp18S.out.four
            obtain ⟨t0, t1, t2, t3⟩ := hpb.out.four
            have hn1 : ¬ gl = g18 := fun e => by have h1 := V.out.llt; omega
            have hn2 : ¬ g18 = gl := fun e => hn1 e.symm
            have hn3 : ¬ gl = g31 := hglB.out.2
            have hn4 : ¬ g31 = gl := fun e => hn3 e.symm
            have hz1 := hp18S.out.lt'
            have hz2 := hpb.out.lt'
            have kE := hid (two_gl wS gl on (.slice a1 n1 c1) (.int .i64 (last : Int)))
            have hat1E := hid (hat1S.out.kp kE.out (fun x hx e => by have h1 := hb1n.out x hx; exact h1 e))
            have hat2E := hid (hat2S.out.kp kE.out (fun x hx e => (hb2.out x hx).2 (by simp [T6, e])))
            go_wp2_with fail
            have hsE : ((wS.setCell ⟨gl, on * 2, none⟩ (.slice a1 n1 c1)).setCell ⟨gl, on * 2 + 1, none⟩ (.int .i64 (last : Int))).heap.size = wS.heap.size := by simp [World.setCell]
            generalize (wS.setCell ⟨gl, on * 2, none⟩ (.slice a1 n1 c1)).setCell ⟨gl, on * 2 + 1, none⟩ (.int .i64 (last : Int)) = wE at *
            have bl1 := below_lit wE (.cells #[.int .i64 X0, .int .i64 X1, .int .i64 X2, .slice b1 B.length cq] 31)
            have bl2 := below_lit (wE.alloc (.cells #[.int .i64 X0, .int .i64 X1, .int .i64 X2, .slice b1 B.length cq] 31)) (.cells #[.int .i64 X0, .int .i64 X1, .int .i64 X2, .slice b2 B.length c2] 31)
            have q1 := rat_lit bl2 ((hat1E.out.below bl1).below bl2)
            have q2 := rat_lit (Below.refl _ _) ((hat2E.out.below bl1).below bl2)
            rw [World.size_alloc] at q2
            rw [hsE] at q1 q2
            refine (samep_any (some ⟨wS.heap.size, 0, none⟩) (some ⟨wS.heap.size + 1, 0, none⟩) 1 1 1 [⟨X0, X1, X2, b1, cq, B⟩] [⟨X0, X1, X2, b2, c2, B⟩] _ rfl rfl q1 q2 (by omega)).mono ?_
            rintro e w9 ⟨rfl, b9⟩
            have bE9 := bnext (bnext bl1 bl2) b9
            have hV9 := hid (hfin.out.1.below bE9)
            have hB9 := hid (hfin.out.2.trans (bE9.mono (Nat.le_trans hbw hfin.out.2.size)))
            clear q1 q2 bl1 bl2 b9 s0 s1 s2 s3 t0 t1 t2 t3
            go_wp2_with fail
            have hPN : PN base gd gl on w9 (b + 1) := ⟨_, _, _, _, _, _, _, _, _, _, _, _, _, _, _, _, hV9.out, by omega, by omega⟩
            exact hN.out _ _ _ _ _ _ _ _ _ _ _ _ _ _ _ _ _ _ _ _ _ _ _ _ _ _ _ _ _ _ _ _ _ _ _ _ _ _ _ _ _ _ _ _ _ _ _ _ _ _ _ _ _ _ _ _ _ _ _ _ _ _ _ _ _ _ _ _ _ _ _ _ _ _ _ _ _ _ _ _ _ _ _ _ _ _ _ _ _ _ _ _ _ _ _ _ _ _ _ _ _ _ _ _ _ _ _ _ _ _ _ _ _ _ _ _ _ _ _ _ _ _ _ _ _ _ _ _ _ _ _ _ _ _ _ _ _ _ _ _ _ _ _ _ _ _ _ _ _ _ _ _ _ _ _ _ _ _ _ _ _ _ _ _ _ _ _ _ _ _ _ _ _ _ _ _ hPN hB9.out

end Go.Proofs.Ytgjjgfppolmkoaa
