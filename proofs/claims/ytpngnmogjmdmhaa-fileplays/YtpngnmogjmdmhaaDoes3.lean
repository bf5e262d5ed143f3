/- does, of a reading. -/
import Derived.Test.YtpngnmogjmdmhaaDoes2
namespace Go.Proofs.Ytpngnmogjmdmhaa
open Go.RowKit
set_option linter.unusedVariables false

def Wd22 (w : World) (g6 : Nat) (cs : Array Value) (L : Nat → Bool) (V : Nat → Value) (w1 : World) : Prop := ∃ W, Below w.heap.size w W ∧ w1 = if L 19 = true then W.setRow g6 cs else W
theorem Wd22.row {w : World} {g2 : Nat} {cs : Array Value} {L : Nat → Bool} {V : Nat → Value} {w1 : World} {g1 : Nat} {o : Obj} (h : Wd22 w g2 cs L V w1) (hr : w.heap[g1]? = some o) (hne : g1 ≠ g2) : w1.heap[g1]? = some o := by
  obtain ⟨W, hb, rfl⟩ := h
  split
  · rw [setRow_other _ _ _ hne]; exact row_b hr hb
  · exact row_b hr hb
theorem Wd22.same {w : World} {g2 : Nat} {cs : Array Value} {L L' : Nat → Bool} {V V' : Nat → Value} {w1 : World} (h : Wd22 w g2 cs L V w1) (h3 : L' 19 = L 19) : Wd22 w g2 cs L' V' w1 := by
  unfold Wd22; rw [h3]; exact h
theorem Wd22.two {w : World} {g2 : Nat} {cs : Array Value} {L : Nat → Bool} {V : Nat → Value} {w1 : World} (h : Wd22 w g2 cs L V w1) : ∃ W, Below w.heap.size w W ∧ Kp (fun b => b = g2) W w1 := by
  obtain ⟨W, hb, rfl⟩ := h
  refine ⟨W, hb, ?_⟩
  split
  · exact kp_setRow (S := fun b => b = g2) (Kp.refl _ W) rfl _
  · exact Kp.refl _ _
def pv22 (cs : Array Value) (a1 a2 a3 a4 : Option Addr) (m1 m3 c1 c2 c3 c4 : Nat) (E G : Int) : Nat → Value → Prop
  | i, v => v = [(.agg cs : Value), .int .i64 E, .int .i64 E, .bool true, .bool true, .int .i64 G, .int .i64 G, .bool true, .bool true, .bool true, .slice a1 m1 c1, .slice a2 m1 c2, .bool true, .bool true, .bool true, .slice a3 m3 c3, .slice a4 m3 c4, .bool true, .bool true, undef, .bool true].getD i undef

set_option maxRecDepth 100000 in
set_option maxHeartbeats 4000000 in
theorem does_r22 {FF : Act → World → Prop} {w : World} {g0 g6 m1 m3 c1q c2q c3q c4q : Nat} {E G : Int} {a1 a2 a3 a4 : Option Addr} {cs old : Array Value} {c0 c1 c2 c3 c5 c7 c8 c9 c10 c11 c12 c13 c14 c15 c16 c17 c18 c27 c28 c29 c30 c31 c32 c33 c34 c35 c36 c37 c38 c39 c40 c41 c42 c43 c44 c45 c46 c47 c48 c49 c50 c51 c52 c53 c54 c55 c56 c57 c58 c59 c60 c61 c62 c63 c64 c65 c66 c67 c68 c69 c70 c71 c72 c73 c74 c75 c76 c77 c78 c79 c80 c81 c82 c83 c84 c85 c86 c87 c88 c89 c90 c91 c92 c93 c94 c95 c96 c97 c98 c99 c100 c101 c102 c103 c104 c105 c106 c107 c108 c109 c110 c111 c112 c113 c114 c115 c116 c117 c118 c119 c120 c121 c122 c123 c124 c125 c126 c127 c128 c129 c130 c131 c132 c133 c134 c135 c136 c137 c138 c139 c140 c141 c142 c143 c144 c145 c146 c147 c148 c149 c150 c151 c152 c153 c154 c155 c156 c157 c158 c159 c160 c161 c162 c163 c164 c165 c166 c167 c168 c169 c170 c171 c172 c173 c174 c175 c176 c177 c178 c179 c180 c181 c182 c183 c184 c185 c186 c187 c188 c189 c190 c191 c192 c193 c194 c195 c196 c197 c198 c199 c200 c201 c202 c203 c204 c205 c206 c207 c208 c209 c210 c211 c212 : Value}
    (hne : g0 ≠ g6) (h0 : Hid (w.heap[g0]? = some (.cells cs 40 (0, 0)))) (h6 : Hid (w.heap[g6]? = some (.cells old 40 (0, 0)))) (hc : Hid (cs.size = 8)) (ho : Hid (old.size = 8)) (ha : Hid (cs.all (·.oneCell') = true))
    (kS1 : Hid (∀ w1, (∃ W, Below w.heap.size w W ∧ Kp (fun b => b = g6) W w1) → Calls Try.prog 23 #[.slice a1 m1 c1q, .slice a2 m1 c2q] w1 fun e w' => e = .returned (.bool true) ∧ w' = w1))
    (kS2 : Hid (∀ w1, (∃ W, Below w.heap.size w W ∧ Kp (fun b => b = g6) W w1) → Calls Try.prog 23 #[.slice a3 m3 c3q, .slice a4 m3 c4q] w1 fun e w' => e = .returned (.bool true) ∧ w' = w1))
    (hQ : Hid (∀ (d134 d135 d136 d137 d138 d139 d140 d141 d142 d143 d144 d145 d146 d147 d148 d149 d150 d151 d152 : Value) (W : World), Below w.heap.size w W → FF ⟨#[c0, c1, c2, c3, .pointer (some ⟨g0, 0, none⟩), c5, .pointer (some ⟨g6, 0, none⟩), .bool true, c8, c9, c10, c11, c12, c13, c14, c15, c16, c17, c18, .slice a1 m1 c1q, .int .i64 E, .slice a2 m1 c2q, .int .i64 E, .slice a3 m3 c3q, .int .i64 G, .slice a4 m3 c4q, .int .i64 G, c27, c28, c29, c30, c31, c32, c33, c34, c35, c36, c37, c38, c39, c40, c41, c42, c43, c44, c45, c46, c47, c48, c49, c50, c51, c52, c53, c54, c55, c56, c57, c58, c59, c60, c61, c62, c63, c64, c65, c66, c67, c68, c69, c70, c71, c72, c73, c74, c75, c76, c77, c78, c79, c80, c81, c82, c83, c84, c85, c86, c87, c88, c89, c90, c91, c92, c93, c94, c95, c96, c97, c98, c99, c100, c101, c102, c103, c104, c105, c106, c107, c108, c109, c110, c111, c112, c113, c114, c115, c116, c117, c118, c119, c120, c121, c122, c123, c124, c125, c126, c127, c128, c129, c130, c131, c132, c133, d134, d135, d136, d137, d138, d139, d140, d141, d142, d143, d144, d145, d146, d147, d148, d149, d150, d151, d152, c153, c154, c155, c156, c157, c158, c159, c160, c161, c162, c163, c164, c165, c166, c167, c168, c169, c170, c171, c172, c173, c174, c175, c176, c177, c178, c179, c180, c181, c182, c183, c184, c185, c186, c187, c188, c189, c190, c191, c192, c193, c194, c195, c196, c197, c198, c199, c200, c201, c202, c203, c204, c205, c206, c207, c208, c209, c210, c211, c212], []⟩ (W.setRow g6 cs))) :
    Code.wp Try.prog ((Try.f22.body.bind (regAt 22)).getD .skip) (Nrm FF) ⟨#[c0, c1, c2, c3, .pointer (some ⟨g0, 0, none⟩), c5, .pointer (some ⟨g6, 0, none⟩), c7, c8, c9, c10, c11, c12, c13, c14, c15, c16, c17, c18, .slice a1 m1 c1q, .int .i64 E, .slice a2 m1 c2q, .int .i64 E, .slice a3 m3 c3q, .int .i64 G, .slice a4 m3 c4q, .int .i64 G, c27, c28, c29, c30, c31, c32, c33, c34, c35, c36, c37, c38, c39, c40, c41, c42, c43, c44, c45, c46, c47, c48, c49, c50, c51, c52, c53, c54, c55, c56, c57, c58, c59, c60, c61, c62, c63, c64, c65, c66, c67, c68, c69, c70, c71, c72, c73, c74, c75, c76, c77, c78, c79, c80, c81, c82, c83, c84, c85, c86, c87, c88, c89, c90, c91, c92, c93, c94, c95, c96, c97, c98, c99, c100, c101, c102, c103, c104, c105, c106, c107, c108, c109, c110, c111, c112, c113, c114, c115, c116, c117, c118, c119, c120, c121, c122, c123, c124, c125, c126, c127, c128, c129, c130, c131, c132, c133, c134, c135, c136, c137, c138, c139, c140, c141, c142, c143, c144, c145, c146, c147, c148, c149, c150, c151, c152, c153, c154, c155, c156, c157, c158, c159, c160, c161, c162, c163, c164, c165, c166, c167, c168, c169, c170, c171, c172, c173, c174, c175, c176, c177, c178, c179, c180, c181, c182, c183, c184, c185, c186, c187, c188, c189, c190, c191, c192, c193, c194, c195, c196, c197, c198, c199, c200, c201, c202, c203, c204, c205, c206, c207, c208, c209, c210, c211, c212], []⟩ w := by
  conv => arg 2; whnf
  refine wp_region_alv (Wd := Wd22 w g6 cs) (Pv := pv22 cs a1 a2 a3 a4 m1 m3 c1q c2q c3q c4q E G) (by kernel_rfl) (by kernel_rfl) ?_ ?_ ?_
  · intro L V hL
    exact ⟨_, drew_below w, by rw [hL 19]; rfl⟩
  · refine ⟨?_, ?_, ?_, ?_, ?_, ?_, ?_, ?_, ?_, ?_, ?_, ?_, ?_, ?_, ?_, ?_, ?_, ?_, ?_, ?_, ?_, trivial⟩
    · intro ac w1 L hL hup hcl hW hdd hk Kx hK
      refine yes (want_n rfl) ?_
      refine wp_load_row 40 (.tmp 4) rfl g0 (get_keep (hk 4 (no_dst (by kernel_rfl))) rfl) 40 cs (0, 0) _ (hW.row h0.out hne) Try.underlying40 rfl (info40s _ hc.out) ?_
      exact hK _ _ (fun _ => rfl) (fun L' V' g1' g2' g3' g4' => hW.same (g2' 19 (by decide)))
    · intro ac w1 L hL hup hcl hW hdd hk Kx hK
      refine yes (want_n rfl) (wp_mv _ rfl _ (get_keep (hk 20 (no_dst (by kernel_rfl))) rfl) ?_)
      exact hK _ _ (fun _ => rfl) (fun L' V' g1' g2' g3' g4' => hW.same (g2' 19 (by decide)))
    · intro ac w1 L hL hup hcl hW hdd hk Kx hK
      refine yes (want_n rfl) (wp_mv _ rfl _ (get_keep (hk 22 (no_dst (by kernel_rfl))) rfl) ?_)
      exact hK _ _ (fun _ => rfl) (fun L' V' g1' g2' g3' g4' => hW.same (g2' 19 (by decide)))
    · intro ac w1 L hL hup hcl hW hdd hk Kx hK
      have e135 : ac.tmps[135]?.getD undef = (.int .i64 E : Value) := slot (hdd 1 _ 135 rfl rfl rfl)
      have e136 : ac.tmps[136]?.getD undef = (.int .i64 E : Value) := slot (hdd 2 _ 136 rfl rfl rfl)
      refine yes (want_n rfl) ?_
      have hv := hid (hK (.bool true) w1 (fun _ => rfl) (fun L' V' g1' g2' g3' g4' => hW.same (g2' 19 (by decide))))
      clear hK hW hL hup hdd hk hcl
      go_simp
      refine kq hv.out ?_
      simp
    · intro ac w1 L hL hup hcl hW hdd hk Kx hK
      refine yes (want_n rfl) (wp_mv _ rfl _ (hdd 3 _ 137 rfl rfl rfl) ?_)
      exact hK _ _ (fun _ => rfl) (fun L' V' g1' g2' g3' g4' => hW.same (g2' 19 (by decide)))
    · intro ac w1 L hL hup hcl hW hdd hk Kx hK
      refine yes (want_g rfl rfl (hdd 4 _ 138 rfl rfl rfl)) (wp_mv _ rfl _ (get_keep (hk 24 (no_dst (by kernel_rfl))) rfl) ?_)
      exact hK _ _ (fun _ => rfl) (fun L' V' g1' g2' g3' g4' => hW.same (g2' 19 (by decide)))
    · intro ac w1 L hL hup hcl hW hdd hk Kx hK
      refine yes (want_g rfl rfl (hdd 4 _ 138 rfl rfl rfl)) (wp_mv _ rfl _ (get_keep (hk 26 (no_dst (by kernel_rfl))) rfl) ?_)
      exact hK _ _ (fun _ => rfl) (fun L' V' g1' g2' g3' g4' => hW.same (g2' 19 (by decide)))
    · intro ac w1 L hL hup hcl hW hdd hk Kx hK
      have e139 : ac.tmps[139]?.getD undef = (.int .i64 G : Value) := slot (hdd 5 _ 139 rfl rfl rfl)
      have e140 : ac.tmps[140]?.getD undef = (.int .i64 G : Value) := slot (hdd 6 _ 140 rfl rfl rfl)
      refine yes (want_g rfl rfl (hdd 4 _ 138 rfl rfl rfl)) ?_
      have hv := hid (hK (.bool true) w1 (fun _ => rfl) (fun L' V' g1' g2' g3' g4' => hW.same (g2' 19 (by decide))))
      clear hK hW hL hup hdd hk hcl
      go_simp
      refine kq hv.out ?_
      simp
    · intro ac w1 L hL hup hcl hW hdd hk Kx hK
      refine yes (want_n rfl) (wp_pick _ _ _ rfl true _ (hdd 4 _ 138 rfl rfl rfl) (hdd 7 _ 141 rfl rfl rfl) ?_)
      exact hK _ _ (fun _ => rfl) (fun L' V' g1' g2' g3' g4' => hW.same (g2' 19 (by decide)))
    · intro ac w1 L hL hup hcl hW hdd hk Kx hK
      refine yes (want_n rfl) (wp_mv _ rfl _ (hdd 8 _ 142 rfl rfl rfl) ?_)
      exact hK _ _ (fun _ => rfl) (fun L' V' g1' g2' g3' g4' => hW.same (g2' 19 (by decide)))
    · intro ac w1 L hL hup hcl hW hdd hk Kx hK
      refine yes (want_g rfl rfl (hdd 9 _ 143 rfl rfl rfl)) (wp_mv _ rfl _ (get_keep (hk 19 (no_dst (by kernel_rfl))) rfl) ?_)
      exact hK _ _ (fun _ => rfl) (fun L' V' g1' g2' g3' g4' => hW.same (g2' 19 (by decide)))
    · intro ac w1 L hL hup hcl hW hdd hk Kx hK
      refine yes (want_g rfl rfl (hdd 9 _ 143 rfl rfl rfl)) (wp_mv _ rfl _ (get_keep (hk 21 (no_dst (by kernel_rfl))) rfl) ?_)
      exact hK _ _ (fun _ => rfl) (fun L' V' g1' g2' g3' g4' => hW.same (g2' 19 (by decide)))
    · intro ac w1 L hL hup hcl hW hdd hk Kx hK
      refine yes (want_g rfl rfl (hdd 9 _ 143 rfl rfl rfl)) ?_
      refine wp_callv 23 _ _ rfl _ Try.func23 rfl rfl _ (args2 (hdd 10 _ 144 rfl rfl rfl) (hdd 11 _ 145 rfl rfl rfl)) (kS1.out w1 (hW.two)) ?_
      rintro e w' ⟨rfl, hw'⟩
      subst hw'
      exact ⟨_, rfl, hK _ _ (fun _ => rfl) (fun L' V' g1' g2' g3' g4' => hW.same (g2' 19 (by decide)))⟩
    · intro ac w1 L hL hup hcl hW hdd hk Kx hK
      refine yes (want_n rfl) (wp_pick _ _ _ rfl true _ (hdd 9 _ 143 rfl rfl rfl) (hdd 12 _ 146 rfl rfl rfl) ?_)
      exact hK _ _ (fun _ => rfl) (fun L' V' g1' g2' g3' g4' => hW.same (g2' 19 (by decide)))
    · intro ac w1 L hL hup hcl hW hdd hk Kx hK
      refine yes (want_n rfl) (wp_mv _ rfl _ (hdd 13 _ 147 rfl rfl rfl) ?_)
      exact hK _ _ (fun _ => rfl) (fun L' V' g1' g2' g3' g4' => hW.same (g2' 19 (by decide)))
    · intro ac w1 L hL hup hcl hW hdd hk Kx hK
      refine yes (want_g rfl rfl (hdd 14 _ 148 rfl rfl rfl)) (wp_mv _ rfl _ (get_keep (hk 23 (no_dst (by kernel_rfl))) rfl) ?_)
      exact hK _ _ (fun _ => rfl) (fun L' V' g1' g2' g3' g4' => hW.same (g2' 19 (by decide)))
    · intro ac w1 L hL hup hcl hW hdd hk Kx hK
      refine yes (want_g rfl rfl (hdd 14 _ 148 rfl rfl rfl)) (wp_mv _ rfl _ (get_keep (hk 25 (no_dst (by kernel_rfl))) rfl) ?_)
      exact hK _ _ (fun _ => rfl) (fun L' V' g1' g2' g3' g4' => hW.same (g2' 19 (by decide)))
    · intro ac w1 L hL hup hcl hW hdd hk Kx hK
      refine yes (want_g rfl rfl (hdd 14 _ 148 rfl rfl rfl)) ?_
      refine wp_callv 23 _ _ rfl _ Try.func23 rfl rfl _ (args2 (hdd 15 _ 149 rfl rfl rfl) (hdd 16 _ 150 rfl rfl rfl)) (kS2.out w1 (hW.two)) ?_
      rintro e w' ⟨rfl, hw'⟩
      subst hw'
      exact ⟨_, rfl, hK _ _ (fun _ => rfl) (fun L' V' g1' g2' g3' g4' => hW.same (g2' 19 (by decide)))⟩
    · intro ac w1 L hL hup hcl hW hdd hk Kx hK
      refine yes (want_n rfl) (wp_pick _ _ _ rfl true _ (hdd 14 _ 148 rfl rfl rfl) (hdd 17 _ 151 rfl rfl rfl) ?_)
      exact hK _ _ (fun _ => rfl) (fun L' V' g1' g2' g3' g4' => hW.same (g2' 19 (by decide)))
    · intro ac w1 L hL hup hcl hW hdd hk Kx hK
      obtain ⟨W, hb, hw⟩ := hW
      rw [hL] at hw
      simp only [Bool.false_eq_true, if_false] at hw
      subst hw
      refine yes (want_n rfl) ?_
      refine wp_store_row 40 (.tmp 6) (.tmp 134) rfl g6 cs (get_keep (hk 6 (no_dst (by kernel_rfl))) rfl) (hdd 0 _ 134 rfl rfl rfl) 40 old (row_b h6.out hb) (info40s _ hc.out) (by rw [ho.out, hc.out]) ha.out ?_
      exact hK _ _ (fun h => absurd rfl h) (fun L' V' g1' g2' g3' g4' => ⟨w1, hb, by rw [g1']; rfl⟩)
    · intro ac w1 L hL hup hcl hW hdd hk Kx hK
      refine yes (want_n rfl) (wp_as _ rfl _ (hdd 18 _ 152 rfl rfl rfl) ?_)
      exact hK _ _ (fun _ => rfl) (fun L' V' g1' g2' g3' g4' => hW.same (g2' 19 (by decide)))
  · intro ac w1 hdf hsz hkp hval hW
    obtain ⟨L, hall, W, hb, rfl⟩ := hW
    rw [if_pos (hall 19 (by decide))]
    obtain ⟨ff, hf⟩ : ∃ ff, ff = fun d => ac.tmps.getD d undef := ⟨_, rfl⟩
    have h7 : ff 7 = .bool true := by rw [hf]; exact hval 20 _ 7 rfl rfl
    have hfa := act_filled hdf hsz hkp
    rw [← hf] at hfa
    rw [hfa]
    clear hdf hsz hkp hval hfa hf
    clear ac
    simp only [fillAll, List.set_cons_zero, List.set_cons_succ, h7]
    exact hQ.out _ _ _ _ _ _ _ _ _ _ _ _ _ _ _ _ _ _ _ W hb

set_option maxRecDepth 100000 in
set_option maxHeartbeats 4000000 in
theorem does_read (base p : Nat) (x : Dx) (T : Nat → Prop) (y : RDx) (d : Dsk) (on f n ec tn : Int) (ba : Option Addr) (bn bc : Nat) (w : World) (hs : Sole base w p x d) (hbase : base ≤ w.heap.size) (hrd : RD w T y d) (hT : ∀ k, Turn p x k → T k) (hTb : ∀ k, T k → k < w.heap.size) (hn : d.ops.length ≤ 1000000) (hnb : n ≤ 9223372036854775807) (htb : tn ≤ 9223372036854775807) :
    Calls Try.prog 22 #[.pointer (some ⟨p, 0, none⟩), .agg (y.cells d), .agg #[.int .i64 4, .int .i64 on, .int .i64 f, .slice ba bn bc, .int .i64 n, .int .i64 ec, .int .i64 tn]] w (DPost base w p x T d) := by
  obtain ⟨W0, hW0⟩ : ∃ W0, W0 = (((w.alloc (.cells (y.cells d) 40)).alloc (.cells #[.int .i64 4, .int .i64 on, .int .i64 f, .slice ba bn bc, .int .i64 n, .int .i64 ec, .int .i64 tn] 44)).alloc (.cells #[.slice none 0 0, .slice none 0 0, .slice none 0 0, .slice none 0 0, .bool false, .int .i64 0, .int .i64 0, .int .i64 0] 40)) := ⟨_, rfl⟩
  have b1 := below_lit w (.cells (y.cells d) 40)
  have b2 := below_lit (w.alloc (.cells (y.cells d) 40)) (.cells #[.int .i64 4, .int .i64 on, .int .i64 f, .slice ba bn bc, .int .i64 n, .int .i64 ec, .int .i64 tn] 44)
  have b3 := below_lit ((w.alloc (.cells (y.cells d) 40)).alloc (.cells #[.int .i64 4, .int .i64 on, .int .i64 f, .slice ba bn bc, .int .i64 n, .int .i64 ec, .int .i64 tn] 44)) (.cells #[.slice none 0 0, .slice none 0 0, .slice none 0 0, .slice none 0 0, .bool false, .int .i64 0, .int .i64 0, .int .i64 0] 40)
  have z1 : (w.alloc (.cells (y.cells d) 40)).heap.size = w.heap.size + 1 := size_lit _ _
  have z2 : ((w.alloc (.cells (y.cells d) 40)).alloc (.cells #[.int .i64 4, .int .i64 on, .int .i64 f, .slice ba bn bc, .int .i64 n, .int .i64 ec, .int .i64 tn] 44)).heap.size = w.heap.size + 1 + 1 := by rw [size_lit, z1]
  have bl : Below w.heap.size w W0 := by rw [hW0]; exact bnext (bnext b1 b2) b3
  have r0 : W0.heap[w.heap.size]? = some (.cells (y.cells d) 40 (0, 0)) := by rw [hW0]; exact row_b (row_b (heap_alloc_new w _) b2) b3
  have rI : W0.heap[w.heap.size + 1]? = some (.cells #[.int .i64 4, .int .i64 on, .int .i64 f, .slice ba bn bc, .int .i64 n, .int .i64 ec, .int .i64 tn] 44 (0, 0)) := by rw [hW0, ← z1]; exact row_b (heap_alloc_new _ _) b3
  have r6 : W0.heap[w.heap.size + 1 + 1]? = some (.cells #[.slice none 0 0, .slice none 0 0, .slice none 0 0, .slice none 0 0, .bool false, .int .i64 0, .int .i64 0, .int .i64 0] 40 (0, 0)) := by rw [hW0, ← z2]; exact heap_alloc_new _ _
  have hz : w.heap.size + 1 + 1 < W0.heap.size := (Array.getElem?_eq_some_iff.1 r6).1
  clear b1 b2 b3 z1 z2
  have hnt : ∀ g, w.heap.size ≤ g → ¬ Turn p x g := fun g hg h => by have := hs.is.1.turn_lt g h; omega
  have hs0 := hs.below bl
  replace hrd := hid hrd
  replace hT := hid hT
  replace hTb := hid hTb
  replace hnt := hid hnt
  replace hs := hid hs
  replace r0 := hid r0
  replace r6 := hid r6
  have y2 := row_cell rI 2 (.int .i64 f) rfl
  have u0 := row_cell rI 0 (.int .i64 4) rfl
  rw [hW0] at u0
  have hinv := hs0.inv
  have kP := read_sole base p x d f _ _ _ W0 hs0 rfl rfl rfl
  have hrd0 := does_rd (g6 := w.heap.size + 1 + 1) hs.out hrd.out hT.out bl (by omega) (Grow.refl W0 p x) (Kp.refl _ W0)
  have hlt0 := does_lt (g6 := w.heap.size + 1 + 1) hTb.out bl hz (Kp.refl (Turn p x) W0) hs0
  replace hs0 := hid hs0
  replace rI := hid rI
  replace hrd0 := hid hrd0
  replace hlt0 := hid hlt0
  go_enter Try.func22, Try.ntmps22
  go_upto_region 18 with fail
  rw [← hW0]
  replace hW0 := hid hW0
  clear u0
  go_wp2_with fail
  refine kP.mono ?_
  clear kP
  rintro e w1 ⟨a1, c1, rfl, ho1, hb1⟩
  have q0 := row_b r0.out hb1
  have qI := row_b rI.out hb1
  clear y2
  have y2 := row_cell qI 2 (.int .i64 f) rfl
  have kR := rread_any _ y d f w1 (hrd0.out.below hb1) hinv (fun k h => Nat.lt_of_lt_of_le (hlt0.out k h) hb1.size) hn
  replace q0 := hid q0
  replace qI := hid qI
  replace ho1 := hid ho1
  go_wp2_with (refine wpList_load_row rfl 40 (.tmp 4) rfl w.heap.size rfl 40 (y.cells d) (0, 0) _ q0.out Try.underlying40 rfl info40c ?_)
  refine kR.mono ?_
  clear kR
  rintro e w2 ⟨a2, c2, rfl, hf2, hb2⟩
  have b12 := bnext hb1 hb2
  have qI2 := row_b rI.out b12
  clear y2
  have y2 := row_cell qI2 2 (.int .i64 f) rfl
  have kP := durable_sole base p x d f _ _ _ w2 (hs0.out.below b12) rfl rfl rfl
  replace qI2 := hid qI2
  replace hf2 := hid hf2
  go_wp2_with fail
  refine kP.mono ?_
  clear kP
  rintro e w3 ⟨a3, c3, rfl, ho3, hb3⟩
  have b13 := bnext b12 hb3
  have s0 := row_b r0.out b13
  have sI := row_b rI.out b13
  clear y2
  have y2 := row_cell sI 2 (.int .i64 f) rfl
  have kR := rdur_any _ y d f w3 (hrd0.out.below b13)
  replace s0 := hid s0
  replace sI := hid sI
  replace ho3 := hid ho3
  go_wp2_with (refine wpList_load_row rfl 40 (.tmp 4) rfl w.heap.size rfl 40 (y.cells d) (0, 0) _ s0.out Try.underlying40 rfl info40c ?_)
  refine kR.mono ?_
  clear kR
  rintro e w4 ⟨a4, c4, rfl, hf4, hb4⟩
  have b14 := bnext b13 hb4
  have t0 := row_b r0.out b14
  have t6 := row_b r6.out b14
  have own_kp : ∀ {W : World} {Wx : World} {a : Option Addr} {m c : Nat} {l : List UInt8}, Own W W0.heap.size (.slice a m c) l → Below W.heap.size W Wx → ∀ w9, Kp (fun b => b = w.heap.size + 1 + 1) Wx w9 → At w9 a l := fun ho hb w9 hk => Own.at (base := W0.heap.size) (owns_kp (owns_kp ho (Kp.of_below (S := fun _ => False) hb) (fun _ _ h => h)) hk (fun k hk' e => by have := (World.ownsRow.lt ho k hk').1; omega))
  have kS1 : Hid (∀ w9, (∃ W, Below w4.heap.size w4 W ∧ Kp (fun b => b = w.heap.size + 1 + 1) W w9) → Calls Try.prog 23 #[.slice a1 (d.readB f).length c1, .slice a2 (d.readB f).length c2] w9 fun e w' => e = .returned (.bool true) ∧ w' = w9) := hid (fun w9 hw => by
    obtain ⟨W, hbW, hkW⟩ := hw
    exact same_any a1 a2 _ _ c1 c2 (d.readB f) (d.readB f) w9 rfl rfl (own_kp ho1.out (bnext (bnext hb2 hb3) (bnext hb4 hbW)) w9 hkW) ((hf2.out.below (bnext hb3 (bnext hb4 hbW))).kp (hkW.more (fun k e => .inr e))).at_ rfl)
  have kS2 : Hid (∀ w9, (∃ W, Below w4.heap.size w4 W ∧ Kp (fun b => b = w.heap.size + 1 + 1) W w9) → Calls Try.prog 23 #[.slice a3 (d.durB f).length c3, .slice a4 (d.durB f).length c4] w9 fun e w' => e = .returned (.bool true) ∧ w' = w9) := hid (fun w9 hw => by
    obtain ⟨W, hbW, hkW⟩ := hw
    exact same_any a3 a4 _ _ c3 c4 (d.durB f) (d.durB f) w9 rfl rfl (own_kp (ho3.out.le b12.size) (bnext hb4 hbW) w9 hkW) ((hf4.below hbW).kp (hkW.more (fun k e => .inr e))).at_ rfl)
  have hend := hid (fun W (hbW : Below w4.heap.size w4 W) => does_end (T := T) (y' := y) hs.out bl (by omega) hz (Grow.refl W0 p x) (Kp.refl _ W0) hs0.out b14 (hrd0.out.below b14) hbW (y.cells d))
  replace hf4 := hid hf4
  replace t0 := hid t0
  replace t6 := hid t6
  clear own_kp y2
  go_upto_region 22 with fail
  refine Code.wp_mono nrm_of ?_
  refine does_r22 (g0 := w.heap.size) (g6 := w.heap.size + 1 + 1) (cs := y.cells d) (by omega) t0 t6 (hid rfl) (hid rfl) (hid (cells_all _ _)) kS1 kS2 (hid ?_)
  intro d134 d135 d136 d137 d138 d139 d140 d141 d142 d143 d144 d145 d146 d147 d148 d149 d150 d151 d152 W hbW
  have s6 := hid (row_b t6.out hbW)
  go_wp2
  refine bodyPost_ret (results_row_tmp rfl _ _ (w.heap.size + 1 + 1) _ _ rfl (setRow_heap _ _ _ _ _ _ s6.out) rfl rfl) rfl ?_
  exact hend.out W hbW

end Go.Proofs.Ytpngnmogjmdmhaa
