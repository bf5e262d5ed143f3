/- NetPlays: its walk. -/
import Derived.Test.YtgjjgfppolmkoaaPlaysSw
import Derived.Test.YtgjjgfppolmkoaaPlaysR39
import Derived.Test.YtgjjgfppolmkoaaPlaysR41
import Derived.Test.YtgjjgfppolmkoaaPlaysFill
import Derived.Deep.RegionHeld
import Derived.Deep.CutBlock
import Derived.Deep.Cut
namespace Go.Proofs.Ytgjjgfppolmkoaa
open Go.RowKit Go.Maps
set_option linter.unusedVariables false

theorem playAt {base gd gl : Nat} {w : World} {p m : Nat} {L : List Pk} {last : Nat} {a : Option Addr} {n c : Nat} {R : List Pk} {p' m' : Nat} {L' : List Pk} {last' : Nat} {a' : Option Addr} {n' c' : Nat} {R' : List Pk} {b : Nat} (h : View base gd gl 0 w p m L last a n c R p' m' L' last' a' n' c' R') (h1 : last ≤ b) (h2 : last' ≤ b) (i : Nat) (hi : i < 2) :
    ∃ p m L last a n c R p' m' L' last' a' n' c' R', View base gd gl i w p m L last a n c R p' m' L' last' a' n' c' R' ∧ last ≤ b ∧ last' ≤ b := by
  rcases (show i = 0 ∨ i = 1 by omega) with rfl | rfl
  · exact ⟨_, _, _, _, _, _, _, _, _, _, _, _, _, _, _, _, h, h1, h2⟩
  · exact ⟨_, _, _, _, _, _, _, _, _, _, _, _, _, _, _, _, h.flip, h2, h1⟩

theorem View.play {base gd gl i : Nat} {w : World} {p m : Nat} {L : List Pk} {last : Nat} {a : Option Addr} {n c : Nat} {R : List Pk} {p' m' : Nat} {L' : List Pk} {last' : Nat} {a' : Option Addr} {n' c' : Nat} {R' : List Pk} {b : Nat} (h : View base gd gl i w p m L last a n c R p' m' L' last' a' n' c' R') (h1 : last ≤ b) (h2 : last' ≤ b) : Play base gd gl w b := by
  have hi := h.on2
  rcases (show i = 0 ∨ i = 1 by omega) with rfl | rfl
  · exact ⟨_, _, _, _, _, _, _, _, _, _, _, _, _, _, _, _, h, h1, h2⟩
  · exact ⟨_, _, _, _, _, _, _, _, _, _, _, _, _, _, _, _, h.flip, h2, h1⟩

theorem At.lt_ {w : World} {a : Option Addr} {l : List UInt8} (h : At w a l) : l ≠ [] → ∀ x, a = some x → x.block < w.heap.size := by
  intro hl x hx
  obtain ⟨b, o, e, hc⟩ := h hl
  rw [e] at hx
  cases hx
  exact World.block_lt_of_cell? w _ (hc 0 (List.length_pos_iff.2 hl))

theorem pn_play {base gd gl on : Nat} {w : World} {b : Nat} (h : PN base gd gl on w b) : Play base gd gl w b := by
  obtain ⟨_, _, _, _, _, _, _, _, _, _, _, _, _, _, _, _, V, h1, h2⟩ := h
  exact V.play h1 h2

set_option maxRecDepth 1000000 in
set_option maxHeartbeats 8000000 in
theorem plays_any (many : Bool) (a0 : Option Addr) (len0 cap0 : Nat) (ops : List Opr) (w : World) (hops : ops.length = len0) (hO : OAt w a0 ops) (hB : ∀ o ∈ ops, At w o.a o.body ∧ o.body.length ≤ 140737488355328 ∧ (Lit.int .i64 o.num).wf = true ∧ (Lit.int .i64 o.on).wf = true) :
    Calls Try.prog 4 #[.bool many, .slice a0 len0 cap0] w fun e w' => e = .returned (.bool true) ∧ Below w.heap.size w w' := by
  go_enter Try.func4, Try.ntmps4
  go_wp2_with fail
  refine (new_any w).mono ?_
  rintro e w1 ⟨p0, m0, rfl, hp0, hm0, N0, b1⟩
  go_wp2_with fail
  refine (new_any w1).mono ?_
  rintro e w2 ⟨p1, m1, rfl, hp1, hm1, N1, b2⟩
  have F0 := view_start N0 N1 hp0 hm0 hp1 hm1 b1 b2
  have B0 := bnext (bnext (bnext b1 b2) (below_lit w2 (.cells #[.pointer (some ⟨p0, 0, none⟩), .pointer (some ⟨p1, 0, none⟩)] 38))) (below_lit _ (.cells #[.slice none 0 0, .int .i64 0, .slice none 0 0, .int .i64 0] 41))
  go_wp2_with fail
  obtain ⟨gd, hgd⟩ : ∃ x, x = w2.heap.size := ⟨_, rfl⟩
  obtain ⟨gl, hgl⟩ : ∃ x, x = w2.heap.size + 1 := ⟨_, rfl⟩
  rw [← hgl, ← hgd] at F0 ⊢
  generalize (w2.alloc (.cells #[.pointer (some ⟨p0, 0, none⟩), .pointer (some ⟨p1, 0, none⟩)] 38)).alloc (.cells #[.slice none 0 0, .int .i64 0, .slice none 0 0, .int .i64 0] 41) = w3 at *
  clear hgd hgl N0 N1 hp0 hm0 hp1 hm1 b1 b2
  go_loopw [7] (fun i wr => ∃ j : Nat, j ≤ 250 ∧ i = .int .i64 (j : Int) ∧ Fill w.heap.size gd gl wr j ∧ Below w.heap.size w wr) (fun i _ => 250 - (intOf i).toNat)
  case atStart => exact ⟨0, by omega, rfl, F0, B0⟩
  case round =>
    obtain ⟨j, hj, rfl, ⟨p, m, L, a, c, R, p', m', L', a', c', R', V⟩, B⟩ := hrel
    by_cases hlt : many = true ∧ j < 250
    · obtain ⟨rfl, hlt⟩ := hlt
      have d1 : decide ((j : Int) < 250) = true := decide_eq_true (by omega)
      have c0 : wr.cell? ⟨gd, 0, none⟩ = some (.pointer (some ⟨p, 0, none⟩)) := V.dcell
      have hRl := V.sd.Rl
      replace hRl := hid hRl
      replace V := hid V
      go_wp2_with fail
      refine (send_i (j : Int) (j : Int) none 0 0 [] _ V.out.sd.net rfl (by omega) (by omega) (by rw [V.out.sd.len]; omega) (at_nil _ _)).mono ?_
      rintro e wa ⟨q1, rfl, n1, n2, n3, n4, hqa, hN, ka⟩
      have la := V.out.gla ka
      obtain ⟨y0, y1, _, _⟩ := lcells la
      have Ra := V.out.rata ka
      replace la := hid la
      replace n1 := hid n1
      replace n2 := hid n2
      replace n3 := hid n3
      replace n4 := hid n4
      go_wp2_with fail
      refine (rsend_ok a j c j (j : Int) (j : Int) none 0 0 [] R _ (by omega) hRl.out Ra rfl (by omega) (at_nil _ _) (by omega)).mono ?_
      rintro e wb ⟨v, q, rfl, hp, bb⟩
      obtain ⟨a3, c3, e3⟩ := hp.form
      rw [hRl.out] at e3
      subst e3
      have lb : wb.heap[gl]? = some _ := (bb.block gl (by have := V.out.llt; have := ka.size; omega)).trans la.out
      obtain ⟨z0, z1, z2, z3⟩ := lcells lb
      replace lb := hid lb
      replace hp := hid hp
      have F2 := Fill.more V.out hlt hN ⟨n1.out, n2.out, n3.out, n4.out⟩ hqa ka hp.out bb
      have B2 : Below w.heap.size w ((wb.setCell ⟨gl, 0, none⟩ (.slice a3 (j + 1) c3)).setCell ⟨gl, 1, none⟩ (.int .i64 ((j : Int) + 1))) := by
        have hbs := V.out.bs
        have sw := B.size
        have sa := ka.size
        refine Below.setCell (Below.setCell ((B.trans (ka.below (base := w.heap.size) (fun k hk => by unfold Turn at hk; omega) sw)).trans (bb.mono (by omega))) (p := ⟨gl, 0, none⟩) ?_ _) (p := ⟨gl, 1, none⟩) ?_ _
        · exact hbs.2.2.2.2.2
        · exact hbs.2.2.2.2.2
      replace F2 := hid F2
      replace B2 := hid B2
      go_wp2
      go_roundw
      case rel => exact ⟨j + 1, by omega, by go_num, F2.out, B2.out⟩
      case measure => simp [intOf]; omega
    · have hd : many = true → decide ((j : Int) < 250) = false := fun h => decide_eq_false (by have : ¬ j < 250 := fun h2 => hlt ⟨h, h2⟩; omega)
      have P0 : Play w.heap.size gd gl wr 250 := ⟨p, m, L, j, a, j, c, R, p', m', L', 0, a', 0, c', R', V, hj, by omega⟩
      replace hops := hid hops
      replace hO := hid hO
      replace hB := hid hB
      clear F0 B0 V
      generalize hwF : wr = w4 at *
      clear hwF
      replace P0 := hid P0
      cases many
      · skip
        go_wp2_with fail
        go_loopw [8] (fun iv w5 => ∃ i : Nat, i ≤ len0 ∧ i ≤ 80 ∧ iv = .int .i64 (i : Int) ∧ Hid (Play w.heap.size gd gl w5 (250 + i)) ∧ Below w.heap.size w w5) (fun iv _ => 80 - (intOf iv).toNat)
        case atStart => exact ⟨0, by omega, by omega, rfl, P0, B⟩
        case round =>
          obtain ⟨i, hi, hi8, rfl, hP, B5⟩ := hrel
          clear P0
          by_cases hlt2 : i < len0 ∧ i < 80
          · obtain ⟨hlt2, hlt3⟩ := hlt2
            have d1 : decide ((i : Int) < (len0 : Int)) = true := decide_eq_true (by omega)
            have d2 : decide ((i : Int) < 80) = true := decide_eq_true (by omega)
            have hio : i < ops.length := by rw [hops.out]; exact hlt2
            obtain ⟨ob, oo, ea, hcells⟩ := hO.out (by intro e; rw [e] at hio; simp at hio)
            subst ea
            obtain ⟨x0, x1, x2, x3, x4, x5⟩ := hcells i hio
            obtain ⟨hbody, hblen, hnum, hon⟩ := hB.out _ (List.getElem_mem hio)
            have hce := fun (v : Value) (k : Nat) (h : w.cell? ⟨ob, k, none⟩ = some v) => (B5.cell (p := ⟨ob, k, none⟩) (World.block_lt_of_cell? w _ h)).trans h
            replace x0 := hce _ _ x0
            replace x1 := hce _ _ x1
            replace x2 := hce _ _ x2
            replace x3 := hce _ _ x3
            replace x4 := hce _ _ x4
            replace x5 := hce _ _ x5
            have hba := hid hbody.lt_
            replace hbody := hbody.below B5
            generalize ops[i].kind = kind at x0
            generalize ops[i].on = onv at x1 hon
            obtain ⟨on, hon2, hand⟩ := and_one onv
            generalize ops[i].fr = fr at x2
            generalize ops[i].to = tt at x3
            generalize ops[i].a = ba at x4 hbody hba
            generalize ops[i].c = bc at x4
            generalize ops[i].num = num at x5 hnum
            generalize ops[i].body = body at x4 hbody hblen hba
            obtain ⟨len, hl⟩ : ∃ x, body.length = x := ⟨_, rfl⟩
            rw [hl] at x4 hblen
            replace hl := hid hl
            replace hnum := hid hnum
            replace hcells := hid hcells
            clear hce
            have bl := below_lit wr (.cells #[.int .i64 kind, .int .i64 onv, .int .i64 fr, .int .i64 tt, .slice ba len bc, .int .i64 num] 45)
            have hPO : PO w.heap.size gd gl wr.heap.size on (wr.alloc (.cells #[.int .i64 kind, .int .i64 onv, .int .i64 fr, .int .i64 tt, .slice ba len bc, .int .i64 num] 45)) (250 + i) := by
              obtain ⟨_, _, _, _, _, _, _, _, _, _, _, _, _, _, _, _, V0, hb1, hb2⟩ := hP.out
              obtain ⟨p, m, L, last, a, n, c, R, p', m', L', last', a', n', c', R', V, hb3, hb4⟩ := playAt V0 hb1 hb2 on hon2
              exact ⟨p, m, L, last, a, n, c, R, p', m', L', last', a', n', c', R', V.below bl, hb3, hb4, fun e => Nat.lt_irrefl _ (V.tlt _ e)⟩
            have h9 : O9 (wr.alloc (.cells #[.int .i64 kind, .int .i64 onv, .int .i64 fr, .int .i64 tt, .slice ba len bc, .int .i64 num] 45)) wr.heap.size kind onv fr tt ba len bc num := heap_alloc_new wr _
            have hbody1 := hid (hbody.below bl)
            have B6 := B5.trans (bl.mono B5.size)
            replace hPO := hid hPO
            replace h9 := hid h9
            replace B6 := hid B6
            clear hbody bl
            go_upto_block 4 with fail
            refine plays_sw hPO (by omega) h9 hl hblen hbody1 hba hnum (hid ?_)
            intro d12 d13 d14 d15 d16 d17 d18 d19 d20 d21 d22 d23 d24 d25 d26 d27 d28 d29 d30 d31 d76 d77 d78 d79 d80 d81 d82 d83 d84 d85 d86 d87 d88 d89 d90 d91 d92 d93 d94 d95 d96 d97 d98 d99 d100 d101 d102 d103 d104 d105 d106 d107 d108 d109 d110 d111 d112 d113 d114 d115 d116 d117 d118 d119 d120 d121 d122 d123 d124 d125 d126 d127 d128 d129 d130 d131 d132 d133 d134 d135 d136 d137 d138 d139 d140 d141 d142 d143 d144 d145 d146 d147 d148 d149 d150 d151 d152 d153 d154 d155 d156 d157 d158 d159 d160 d161 d162 d163 d164 d165 d166 d167 d168 d169 d170 d171 d172 d173 d174 d175 d176 d177 d178 d179 d180 d181 d182 d183 d184 d185 d186 d187 d188 d189 d190 d191 d192 d193 d194 d195 d196 d197 d198 d199 d200 d201 d202 d203 d204 d205 d206 d207 d208 d209 d210 d211 d212 d213 d214 d215 d216 d217 d218 d219 d220 d221 d222 d223 d224 d225 d226 d227 d228 d229 d230 wE hPN hBE
            replace hPN := hid hPN
            clear hPO h9 hl hbody1 hba hnum
            go_upto_region 39 with fail
            refine Code.wp_mono nrm_of ?_
            refine plays_r39 hPN (by omega) (hid ?_)
            intro d231 d232 d233 d234 d235 d236 d237 d238 d239 d240 d241 d242 d243 wF hPF hBF
            replace hPF := hid hPF
            have BE := hid ((B6.out.trans hBE).trans hBF)
            clear hPN hBE hBF B6
            go_wp2_with fail
            go_roundw
            case rel => exact ⟨i + 1, by omega, by omega, by go_num, hid (pn_play hPF.out), BE.out⟩
            case measure => simp [intOf]; omega
          · have hPN : Hid (PN w.heap.size gd gl 0 wr (250 + i)) := hid hP.out
            clear hP
            by_cases hx1 : i < len0
            · have d1 : decide ((i : Int) < (len0 : Int)) = true := decide_eq_true (by omega)
              have d2 : decide ((i : Int) < 80) = false := decide_eq_false (by omega)
              go_upto_region 41 with fail
              refine Code.wp_mono nrm_of ?_
              refine plays_r41 hPN (by omega) (hid ?_)
              intro d245 d246 d247 d248 d249 d250 d251 d252 d253 d254 d255 d256 d257 d258 d259 d260 d261 d262 d263 wF hBF
              have BE := hid (B5.trans hBF)
              clear hPN hBF
              go_wp2_with fail
              go_ret
              exact ⟨rfl, BE.out⟩
            · have d1 : decide ((i : Int) < (len0 : Int)) = false := decide_eq_false (by omega)
              go_upto_region 41 with fail
              refine Code.wp_mono nrm_of ?_
              refine plays_r41 hPN (by omega) (hid ?_)
              intro d245 d246 d247 d248 d249 d250 d251 d252 d253 d254 d255 d256 d257 d258 d259 d260 d261 d262 d263 wF hBF
              have BE := hid (B5.trans hBF)
              clear hPN hBF
              go_wp2_with fail
              go_ret
              exact ⟨rfl, BE.out⟩

      · skip
        go_wp2_with fail
        go_loopw [8] (fun iv w5 => ∃ i : Nat, i ≤ len0 ∧ i ≤ 80 ∧ iv = .int .i64 (i : Int) ∧ Hid (Play w.heap.size gd gl w5 (250 + i)) ∧ Below w.heap.size w w5) (fun iv _ => 80 - (intOf iv).toNat)
        case atStart => exact ⟨0, by omega, by omega, rfl, P0, B⟩
        case round =>
          obtain ⟨i, hi, hi8, rfl, hP, B5⟩ := hrel
          clear P0
          by_cases hlt2 : i < len0 ∧ i < 80
          · obtain ⟨hlt2, hlt3⟩ := hlt2
            have d1 : decide ((i : Int) < (len0 : Int)) = true := decide_eq_true (by omega)
            have d2 : decide ((i : Int) < 80) = true := decide_eq_true (by omega)
            have hio : i < ops.length := by rw [hops.out]; exact hlt2
            obtain ⟨ob, oo, ea, hcells⟩ := hO.out (by intro e; rw [e] at hio; simp at hio)
            subst ea
            obtain ⟨x0, x1, x2, x3, x4, x5⟩ := hcells i hio
            obtain ⟨hbody, hblen, hnum, hon⟩ := hB.out _ (List.getElem_mem hio)
            have hce := fun (v : Value) (k : Nat) (h : w.cell? ⟨ob, k, none⟩ = some v) => (B5.cell (p := ⟨ob, k, none⟩) (World.block_lt_of_cell? w _ h)).trans h
            replace x0 := hce _ _ x0
            replace x1 := hce _ _ x1
            replace x2 := hce _ _ x2
            replace x3 := hce _ _ x3
            replace x4 := hce _ _ x4
            replace x5 := hce _ _ x5
            have hba := hid hbody.lt_
            replace hbody := hbody.below B5
            generalize ops[i].kind = kind at x0
            generalize ops[i].on = onv at x1 hon
            obtain ⟨on, hon2, hand⟩ := and_one onv
            generalize ops[i].fr = fr at x2
            generalize ops[i].to = tt at x3
            generalize ops[i].a = ba at x4 hbody hba
            generalize ops[i].c = bc at x4
            generalize ops[i].num = num at x5 hnum
            generalize ops[i].body = body at x4 hbody hblen hba
            obtain ⟨len, hl⟩ : ∃ x, body.length = x := ⟨_, rfl⟩
            rw [hl] at x4 hblen
            replace hl := hid hl
            replace hnum := hid hnum
            replace hcells := hid hcells
            clear hce
            have bl := below_lit wr (.cells #[.int .i64 kind, .int .i64 onv, .int .i64 fr, .int .i64 tt, .slice ba len bc, .int .i64 num] 45)
            have hPO : PO w.heap.size gd gl wr.heap.size on (wr.alloc (.cells #[.int .i64 kind, .int .i64 onv, .int .i64 fr, .int .i64 tt, .slice ba len bc, .int .i64 num] 45)) (250 + i) := by
              obtain ⟨_, _, _, _, _, _, _, _, _, _, _, _, _, _, _, _, V0, hb1, hb2⟩ := hP.out
              obtain ⟨p, m, L, last, a, n, c, R, p', m', L', last', a', n', c', R', V, hb3, hb4⟩ := playAt V0 hb1 hb2 on hon2
              exact ⟨p, m, L, last, a, n, c, R, p', m', L', last', a', n', c', R', V.below bl, hb3, hb4, fun e => Nat.lt_irrefl _ (V.tlt _ e)⟩
            have h9 : O9 (wr.alloc (.cells #[.int .i64 kind, .int .i64 onv, .int .i64 fr, .int .i64 tt, .slice ba len bc, .int .i64 num] 45)) wr.heap.size kind onv fr tt ba len bc num := heap_alloc_new wr _
            have hbody1 := hid (hbody.below bl)
            have B6 := B5.trans (bl.mono B5.size)
            replace hPO := hid hPO
            replace h9 := hid h9
            replace B6 := hid B6
            clear hbody bl
            go_upto_block 4 with fail
            refine plays_sw hPO (by omega) h9 hl hblen hbody1 hba hnum (hid ?_)
            intro d12 d13 d14 d15 d16 d17 d18 d19 d20 d21 d22 d23 d24 d25 d26 d27 d28 d29 d30 d31 d76 d77 d78 d79 d80 d81 d82 d83 d84 d85 d86 d87 d88 d89 d90 d91 d92 d93 d94 d95 d96 d97 d98 d99 d100 d101 d102 d103 d104 d105 d106 d107 d108 d109 d110 d111 d112 d113 d114 d115 d116 d117 d118 d119 d120 d121 d122 d123 d124 d125 d126 d127 d128 d129 d130 d131 d132 d133 d134 d135 d136 d137 d138 d139 d140 d141 d142 d143 d144 d145 d146 d147 d148 d149 d150 d151 d152 d153 d154 d155 d156 d157 d158 d159 d160 d161 d162 d163 d164 d165 d166 d167 d168 d169 d170 d171 d172 d173 d174 d175 d176 d177 d178 d179 d180 d181 d182 d183 d184 d185 d186 d187 d188 d189 d190 d191 d192 d193 d194 d195 d196 d197 d198 d199 d200 d201 d202 d203 d204 d205 d206 d207 d208 d209 d210 d211 d212 d213 d214 d215 d216 d217 d218 d219 d220 d221 d222 d223 d224 d225 d226 d227 d228 d229 d230 wE hPN hBE
            replace hPN := hid hPN
            clear hPO h9 hl hbody1 hba hnum
            go_upto_region 39 with fail
            refine Code.wp_mono nrm_of ?_
            refine plays_r39 hPN (by omega) (hid ?_)
            intro d231 d232 d233 d234 d235 d236 d237 d238 d239 d240 d241 d242 d243 wF hPF hBF
            replace hPF := hid hPF
            have BE := hid ((B6.out.trans hBE).trans hBF)
            clear hPN hBE hBF B6
            go_wp2_with fail
            go_roundw
            case rel => exact ⟨i + 1, by omega, by omega, by go_num, hid (pn_play hPF.out), BE.out⟩
            case measure => simp [intOf]; omega
          · have hPN : Hid (PN w.heap.size gd gl 0 wr (250 + i)) := hid hP.out
            clear hP
            by_cases hx1 : i < len0
            · have d1 : decide ((i : Int) < (len0 : Int)) = true := decide_eq_true (by omega)
              have d2 : decide ((i : Int) < 80) = false := decide_eq_false (by omega)
              go_upto_region 41 with fail
              refine Code.wp_mono nrm_of ?_
              refine plays_r41 hPN (by omega) (hid ?_)
              intro d245 d246 d247 d248 d249 d250 d251 d252 d253 d254 d255 d256 d257 d258 d259 d260 d261 d262 d263 wF hBF
              have BE := hid (B5.trans hBF)
              clear hPN hBF
              go_wp2_with fail
              go_ret
              exact ⟨rfl, BE.out⟩
            · have d1 : decide ((i : Int) < (len0 : Int)) = false := decide_eq_false (by omega)
              go_upto_region 41 with fail
              refine Code.wp_mono nrm_of ?_
              refine plays_r41 hPN (by omega) (hid ?_)
              intro d245 d246 d247 d248 d249 d250 d251 d252 d253 d254 d255 d256 d257 d258 d259 d260 d261 d262 d263 wF hBF
              have BE := hid (B5.trans hBF)
              clear hPN hBF
              go_wp2_with fail
              go_ret
              exact ⟨rfl, BE.out⟩


end Go.Proofs.Ytgjjgfppolmkoaa
